"""Points 7 and 8: drives, and the rows of what they reach."""

import unittest

from tests.helpers import (
    MILLION, all_drives, best_by_minutes, best_of, build, drawn_net, drive_faults)
from tollguess.errors import NoGate, NoNumber
from tollguess.nets import Net
from tollguess.reach import least, reached, roads_to


def bare(rows):
    """The rows without the drive that they stand for: (name, minutes, toll)."""
    return [row[:3] for row in rows]


class Rows(unittest.TestCase):

    def check(self, net, gate, limit, best):
        """Each thing that point 8 says of the rows, best being what they must stand for."""
        rows = reached(net, gate, limit)
        self.assertEqual(rows[0], (gate, 0, 0, -1, -1))
        turns = {name: turn for turn, (name, sees) in enumerate(net.gates())}
        order = [(row[2], row[1], turns[row[0]]) for row in rows[1:]]
        self.assertEqual(order, sorted(order))
        self.assertEqual(len(set(bare(rows[1:]))), len(rows) - 1)
        self.assertEqual(set(bare(rows[1:])), best)
        for place in range(1, len(rows)):
            name, minutes, toll, road, back = rows[place]
            self.assertIn(back, range(place))
            self.assertLessEqual(minutes, limit)
            roads = roads_to(rows, place)
            self.assertEqual(roads, roads_to(rows, back) + [road])
            self.assertEqual(drive_faults(net, gate, name, minutes, toll, roads), [])
            one, other, more, cost, is_open = net.roads()[road]
            self.assertEqual(rows[back][:3], (one, minutes - more, toll - cost))
        return rows

    def check_plainly(self, net, gate, limit):
        return self.check(net, gate, limit, best_of(all_drives(net, gate, limit)))


class Drives(Rows):

    def test_a_gate_alone(self):
        self.assertEqual(reached(build("a", []), "a", 5), [("a", 0, 0, -1, -1)])
        self.assertEqual(reached(build("a*", []), "a", 0), [("a", 0, 0, -1, -1)])

    def test_the_rows_as_they_are_written(self):
        net = build("a b* c", [("a", "b", 2, 3), ("b", "c", 4, 5), ("a", "c", 7, 1)])
        self.assertEqual(reached(net, "a", 10), [
            ("a", 0, 0, -1, -1), ("c", 7, 1, 2, 0), ("b", 2, 3, 0, 0), ("c", 6, 8, 1, 2)])
        rows = reached(net, "a", 10)
        self.assertIs(type(rows), list)
        for row in rows:
            self.assertIs(type(row), tuple)

    def test_a_drive_stops_at_a_gate_that_sees(self):
        net = build("a b c", [("a", "b", 1, 1), ("b", "c", 1, 1)])
        self.assertEqual(bare(reached(net, "a", 9)), [("a", 0, 0), ("b", 1, 1)])

    def test_a_drive_goes_on_through_a_blind_gate(self):
        net = build("a b* c* d e", [
            ("a", "b", 1, 1), ("b", "c", 1, 1), ("c", "d", 1, 1), ("d", "e", 1, 1)])
        self.assertEqual(
            bare(reached(net, "a", 9)),
            [("a", 0, 0), ("b", 1, 1), ("c", 2, 2), ("d", 3, 3)])

    def test_what_sees_now_counts(self):
        net = build("a b c", [("a", "b", 1, 1), ("b", "c", 1, 1)])
        net.blind("b")
        self.assertEqual(bare(reached(net, "a", 9)), [("a", 0, 0), ("b", 1, 1), ("c", 2, 2)])
        net.mend("b")
        self.assertEqual(bare(reached(net, "a", 9)), [("a", 0, 0), ("b", 1, 1)])

    def test_the_first_gate_may_see_or_be_blind(self):
        for gates in ("a b", "a* b", "a b*", "a* b*"):
            with self.subTest(gates=gates):
                net = build(gates, [("a", "b", 1, 1)])
                self.assertEqual(reached(net, "a", 1), [("a", 0, 0, -1, -1), ("b", 1, 1, 0, 0)])

    def test_a_drive_may_come_back_to_its_first_gate(self):
        for gates in ("a b*", "a* b*"):
            with self.subTest(gates=gates):
                net = build(gates, [("a", "b", 1, 1), ("b", "a", 2, 0)])
                self.assertEqual(
                    bare(reached(net, "a", 20)), [("a", 0, 0), ("b", 1, 1), ("a", 3, 1)])

    def test_no_drive_comes_back_through_a_gate_that_sees(self):
        net = build("a* b", [("a", "b", 1, 1), ("b", "a", 2, 0)])
        self.assertEqual(bare(reached(net, "a", 20)), [("a", 0, 0), ("b", 1, 1)])

    def test_the_first_row_beats_no_drive_that_comes_back(self):
        net = build("a b*", [("a", "b", 1, 0), ("b", "a", 1, 0)])
        self.assertEqual(
            reached(net, "a", 20),
            [("a", 0, 0, -1, -1), ("b", 1, 0, 0, 0), ("a", 2, 0, 1, 1)])

    def test_roads_lead_one_way(self):
        net = build("a b*", [("b", "a", 1, 1)])
        self.assertEqual(reached(net, "a", 9), [("a", 0, 0, -1, -1)])

    def test_closed_roads(self):
        net = build("a b* c", [("a", "b", 1, 1), ("b", "c", 1, 1), ("a", "c", 5, 0)])
        net.close(1)
        self.assertEqual(bare(reached(net, "a", 9)), [("a", 0, 0), ("c", 5, 0), ("b", 1, 1)])
        net.reopen(1)
        net.close(0)
        self.assertEqual(bare(reached(net, "a", 9)), [("a", 0, 0), ("c", 5, 0)])
        net.reopen(0)
        self.assertEqual(
            bare(reached(net, "a", 9)), [("a", 0, 0), ("c", 5, 0), ("b", 1, 1), ("c", 2, 2)])

    def test_roads_side_by_side(self):
        net = build("a b", [
            ("a", "b", 5, 5), ("a", "b", 3, 6), ("a", "b", 6, 6), ("a", "b", 9, 2),
            ("a", "b", 9, 3), ("a", "b", 5, 6)])
        self.assertEqual(reached(net, "a", 20), [
            ("a", 0, 0, -1, -1), ("b", 9, 2, 3, 0), ("b", 5, 5, 0, 0), ("b", 3, 6, 1, 0)])

    def test_of_drives_alike_one_row_is_told(self):
        net = build("a b* c", [
            ("a", "b", 1, 1), ("a", "b", 1, 1), ("b", "c", 1, 1), ("b", "c", 1, 1),
            ("a", "c", 2, 2)])
        rows = self.check_plainly(net, "a", 9)
        self.assertEqual(bare(rows), [("a", 0, 0), ("b", 1, 1), ("c", 2, 2)])

    def test_cycles_of_blind_gates_without_toll(self):
        net = build("a* b* c* d", [
            ("a", "b", 1, 0), ("b", "c", 1, 0), ("c", "a", 1, 0), ("c", "b", 1, 0),
            ("c", "d", 1, 0)])
        self.assertEqual(
            bare(reached(net, "a", MILLION)),
            [("a", 0, 0), ("b", 1, 0), ("c", 2, 0), ("a", 3, 0), ("d", 3, 0)])


class Limits(Rows):

    def test_a_limit_of_0(self):
        net = build("a* b*", [("a", "b", 1, 0), ("b", "a", 1, 0)])
        self.assertEqual(reached(net, "a", 0), [("a", 0, 0, -1, -1)])

    def test_a_limit_that_is_met_and_one_missed_by_one(self):
        net = build("a b* c", [("a", "b", 3, 1), ("b", "c", 4, 1)])
        self.assertEqual(bare(reached(net, "a", 2)), [("a", 0, 0)])
        self.assertEqual(bare(reached(net, "a", 3)), [("a", 0, 0), ("b", 3, 1)])
        self.assertEqual(bare(reached(net, "a", 6)), [("a", 0, 0), ("b", 3, 1)])
        self.assertEqual(bare(reached(net, "a", 7)), [("a", 0, 0), ("b", 3, 1), ("c", 7, 2)])

    def test_a_quicker_drive_goes_on_where_a_cheaper_one_is_too_slow(self):
        net = build("a b* c", [("a", "b", 9, 0), ("a", "b", 1, 50), ("b", "c", 2, 1)])
        self.assertEqual(
            bare(reached(net, "a", 10)),
            [("a", 0, 0), ("b", 9, 0), ("b", 1, 50), ("c", 3, 51)])
        self.assertEqual(
            bare(reached(net, "a", 11)),
            [("a", 0, 0), ("b", 9, 0), ("c", 11, 1), ("b", 1, 50), ("c", 3, 51)])

    def test_no_gate_ahead_of_no_number(self):
        net = build("a", [])
        self.assertRaises(NoNumber, reached, net, "a", -1)
        self.assertRaises(NoGate, reached, net, "b", 0)
        self.assertRaises(NoGate, reached, net, "b", -1)
        self.assertRaises(NoGate, reached, Net(), "a", 1)

    def test_limits_beyond_all_roads(self):
        net = build("a b* c", [("a", "b", MILLION, MILLION), ("b", "c", MILLION, MILLION)])
        for limit in (2 * MILLION, 10 ** 9, 10 ** 30):
            self.assertEqual(
                bare(reached(net, "a", limit)),
                [("a", 0, 0), ("b", MILLION, MILLION), ("c", 2 * MILLION, 2 * MILLION)])
        self.assertEqual(len(reached(net, "a", 2 * MILLION - 1)), 2)
        self.assertEqual(len(reached(net, "a", MILLION - 1)), 1)


class Choices(Rows):

    def test_dearer_but_quicker_and_cheaper_but_slower_are_both_told(self):
        net = build("a b* c", [
            ("a", "b", 1, 9), ("a", "b", 9, 1), ("b", "c", 1, 9), ("b", "c", 9, 1)])
        self.assertEqual(bare(self.check_plainly(net, "a", 30)), [
            ("a", 0, 0), ("b", 9, 1), ("c", 18, 2), ("b", 1, 9), ("c", 10, 10), ("c", 2, 18)])

    def test_none_is_told_that_another_one_beats(self):
        # One as quick but dearer, one as dear but slower, one alike.
        net = build("a b", [("a", "b", 4, 4), ("a", "b", 4, 5), ("a", "b", 5, 4), ("a", "b", 4, 4)])
        self.assertEqual(bare(reached(net, "a", 30)), [("a", 0, 0), ("b", 4, 4)])

    def test_a_way_around_beats_a_straight_one(self):
        net = build("a b* c", [("a", "c", 5, 5), ("a", "b", 2, 1), ("b", "c", 3, 4)])
        self.assertEqual(
            bare(self.check_plainly(net, "a", 30)), [("a", 0, 0), ("b", 2, 1), ("c", 5, 5)])

    def test_the_order_is_by_toll_then_minutes_then_turn(self):
        net = build("a z y x w v", [
            ("a", "v", 1, 2), ("a", "w", 2, 2), ("a", "x", 1, 1), ("a", "y", 1, 2),
            ("a", "z", 1, 2)])
        self.assertEqual(bare(reached(net, "a", 9)), [
            ("a", 0, 0), ("x", 1, 1), ("z", 1, 2), ("y", 1, 2), ("v", 1, 2), ("w", 2, 2)])

    def test_the_first_gate_takes_its_turn_among_the_others(self):
        net = build("b a c*", [("a", "c", 1, 1), ("c", "a", 1, 1), ("c", "b", 1, 1)])
        self.assertEqual(
            bare(reached(net, "a", 9)), [("a", 0, 0), ("c", 1, 1), ("b", 2, 2), ("a", 2, 2)])

    def test_back_is_ahead_of_each_row_where_roads_cost_nothing(self):
        # The gates' turn is against the drive's.
        net = build("d c* b* a", [("a", "b", 1, 0), ("b", "c", 1, 0), ("c", "d", 1, 0)])
        self.assertEqual(reached(net, "a", 9), [
            ("a", 0, 0, -1, -1), ("b", 1, 0, 0, 0), ("c", 2, 0, 1, 1), ("d", 3, 0, 2, 2)])

    def test_many_choices_in_a_row(self):
        # 2 to the 40th drives lead to the last gate, but 41 rows stand for them.
        gates = " ".join(f"g{k}*" for k in range(41))
        roads = []
        for k in range(40):
            roads.append((f"g{k}", f"g{k + 1}", 1, 2))
            roads.append((f"g{k}", f"g{k + 1}", 2, 1))
        rows = reached(build(gates, roads), "g0", 1000)
        last = [row[1:3] for row in rows if row[0] == "g40"]
        self.assertEqual(last, [(80 - k, 40 + k) for k in range(41)])


class DrawnNets(Rows):

    def test_small_nets_against_a_plain_search(self):
        for seed in range(600):
            gates = 2 + seed % 5
            net = drawn_net(seed, gates, gates + seed % 13, 4, 5)
            for limit in (0, 1, 4, 9):
                with self.subTest(seed=seed, limit=limit):
                    self.check_plainly(net, f"g{seed % gates}", limit)

    def test_small_nets_of_few_minutes_and_many_tolls(self):
        for seed in range(100):
            net = drawn_net(1000 + seed, 5, 14, 3, 20)
            with self.subTest(seed=seed):
                self.check_plainly(net, "g0", 8)

    def test_the_slow_ways_agree(self):
        for seed in range(40):
            net = drawn_net(2000 + seed, 5, 10, 3, 4)
            self.assertEqual(
                best_by_minutes(net, "g0", 7), best_of(all_drives(net, "g0", 7)))

    def test_nets_of_60_gates_and_200_roads(self):
        for seed in range(4):
            net = drawn_net(3000 + seed, 60, 200, 9, 9)
            for gate in ("g0", "g17", "g59"):
                with self.subTest(seed=seed, gate=gate):
                    self.check(net, gate, 60, best_by_minutes(net, gate, 60))

    def test_a_chain_of_60_blind_gates_and_200_roads(self):
        names = [f"g{k}" for k in range(60)]
        roads = [
            (names[k % 59], names[k % 59 + 1], 1 + k * 7 % 5, k * 11 % 6) for k in range(200)]
        net = build(" ".join(name + "*" for name in names), roads)
        rows = self.check(net, "g0", 250, best_by_minutes(net, "g0", 250))
        self.assertIsNotNone(least(rows, "g59"))

    def test_a_net_of_60_gates_and_200_roads_with_large_numbers(self):
        net = drawn_net(4000, 60, 200, MILLION, MILLION)
        rows = reached(net, "g5", 10 ** 9)
        self.assertGreater(len(rows), 20)
        self.assertEqual(self.check(net, "g5", 10 ** 9, best_of(rows[1:])), rows)


if __name__ == "__main__":
    unittest.main()
