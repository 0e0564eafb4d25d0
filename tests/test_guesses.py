"""Points 12 and 13: the cheapest way that fits the sightings of a car."""

import unittest

from tests.helpers import (
    LAST, MILLION, all_ways, build, drawn_net, drawn_sightings, first_apart, passed_lists,
    snapshot)
from tollguess.errors import NoGate, NoSight, NoTime, TollError
from tollguess.guesses import guess
from tollguess.legs import leg
from tollguess.nets import Net


class OneSighting(unittest.TestCase):

    def test_a_way_of_no_roads(self):
        net = build("a b*", [("a", "b", 1, 1)])
        self.assertEqual(guess(net, [(5, "a")]), ("way", 0, [], [("a", 5)]))
        self.assertEqual(guess(net, [(0, "b")]), ("way", 0, [], [("b", 0)]))
        self.assertEqual(guess(net, [(LAST, "b")]), ("way", 0, [], [("b", LAST)]))

    def test_the_kinds_of_what_is_told(self):
        net = build("a b", [("a", "b", 1, 1)])
        for seen in ([(5, "a")], [(5, "a"), (9, "b")]):
            told = guess(net, seen)
            self.assertEqual(
                [type(part) for part in (told, *told)], [tuple, str, int, list, list])
            self.assertEqual({type(pair) for pair in told[3]}, {tuple})
        told = guess(net, [(5, "b"), (9, "a")])
        self.assertEqual([type(part) for part in (told, *told)], [tuple, str, int])


class TwoSightings(unittest.TestCase):

    def test_a_drive_that_just_meets_the_time_and_one_that_misses_it(self):
        net = build("a b* c", [("a", "b", 3, 4), ("b", "c", 5, 6)])
        self.assertEqual(
            guess(net, [(10, "a"), (18, "c")]),
            ("way", 10, [0, 1], [("a", 10), ("b", 13), ("c", 18)]))
        self.assertEqual(guess(net, [(10, "a"), (17, "c")]), ("none", 0))
        self.assertEqual(guess(net, [(10, "a"), (13, "b")])[:3], ("way", 4, [0]))
        self.assertEqual(guess(net, [(10, "a"), (12, "b")]), ("none", 0))

    def test_a_drive_that_comes_too_early_waits(self):
        net = build("a b* c", [("a", "b", 3, 4), ("b", "c", 5, 6)])
        self.assertEqual(
            guess(net, [(10, "a"), (100, "c")]),
            ("way", 10, [0, 1], [("a", 10), ("b", 13), ("c", 100)]))
        self.assertEqual(
            guess(net, [(10, "a"), (100, "b")]), ("way", 4, [0], [("a", 10), ("b", 100)]))

    def test_times_at_blind_gates_are_counted_from_the_gate_ahead(self):
        net = build("a b* c* d* e", [
            ("a", "b", 2, 1), ("b", "c", 30, 1), ("c", "d", 400, 1), ("d", "e", 5000, 1)])
        self.assertEqual(
            guess(net, [(7, "a"), (9999, "e")]),
            ("way", 4, [0, 1, 2, 3],
             [("a", 7), ("b", 9), ("c", 39), ("d", 439), ("e", 9999)]))

    def test_dearer_but_quicker_where_the_cheap_drive_is_too_slow(self):
        net = build("a b* c", [
            ("a", "b", 9, 1), ("a", "b", 2, 20), ("b", "c", 9, 3), ("b", "c", 1, 40)])
        for between, toll, roads in (
                (99, 4, [0, 2]), (18, 4, [0, 2]), (17, 23, [1, 2]), (11, 23, [1, 2]),
                (10, 41, [0, 3]), (9, 60, [1, 3]), (3, 60, [1, 3])):
            with self.subTest(between=between):
                told = guess(net, [(50, "a"), (50 + between, "c")])
                self.assertEqual(told[:3], ("way", toll, roads))
        self.assertEqual(guess(net, [(50, "a"), (52, "c")]), ("none", 0))

    def test_a_straight_road_dearer_than_a_way_around(self):
        net = build("a b* c", [("a", "c", 1, 9), ("a", "b", 4, 3), ("b", "c", 4, 3)])
        self.assertEqual(guess(net, [(0, "a"), (8, "c")])[:3], ("way", 6, [1, 2]))
        self.assertEqual(guess(net, [(0, "a"), (7, "c")])[:3], ("way", 9, [0]))

    def test_at_one_gate_a_road_is_needed(self):
        net = build("a b*", [("a", "b", 2, 3)])
        for between in (0, 1, 99):
            self.assertEqual(guess(net, [(5, "a"), (5 + between, "a")]), ("none", 0))
        net.road("b", "a", 4, 5)
        self.assertEqual(
            guess(net, [(5, "a"), (11, "a")]), ("way", 8, [0, 1], [("a", 5), ("b", 7), ("a", 11)]))
        self.assertEqual(guess(net, [(5, "a"), (10, "a")]), ("none", 0))
        self.assertEqual(guess(net, [(5, "a"), (5, "a")]), ("none", 0))

    def test_at_one_time_nothing_joins(self):
        net = build("a b", [("a", "b", 1, 0), ("b", "a", 1, 0)])
        self.assertEqual(guess(net, [(5, "a"), (5, "b")]), ("none", 0))
        self.assertEqual(guess(net, [(5, "a"), (6, "b")])[:3], ("way", 0, [0]))

    def test_closed_roads(self):
        net = build("a b", [("a", "b", 1, 1), ("a", "b", 1, 9)])
        seen = [(0, "a"), (5, "b")]
        self.assertEqual(guess(net, seen)[:3], ("way", 1, [0]))
        net.close(0)
        self.assertEqual(guess(net, seen)[:3], ("way", 9, [1]))
        net.close(1)
        self.assertEqual(guess(net, seen), ("none", 0))
        net.reopen(0)
        self.assertEqual(guess(net, seen)[:3], ("way", 1, [0]))

    def test_no_drive_leads_through_a_gate_that_sees(self):
        net = build("a b c", [("a", "b", 1, 1), ("b", "c", 1, 1), ("a", "c", 1, 50)])
        seen = [(0, "a"), (5, "c")]
        self.assertEqual(guess(net, seen)[:3], ("way", 50, [2]))
        net.blind("b")
        self.assertEqual(guess(net, seen)[:3], ("way", 2, [0, 1]))
        net.mend("b")
        self.assertEqual(guess(net, seen)[:3], ("way", 50, [2]))

    def test_a_sighting_at_a_gate_that_sees_lets_the_car_on(self):
        net = build("a b c", [("a", "b", 1, 1), ("b", "c", 1, 1)])
        self.assertEqual(guess(net, [(0, "a"), (5, "c")]), ("none", 0))
        self.assertEqual(
            guess(net, [(0, "a"), (2, "b"), (5, "c")]),
            ("way", 2, [0, 1], [("a", 0), ("b", 2), ("c", 5)]))

    def test_the_gates_of_the_sightings_may_be_blind_now(self):
        roads = [("a", "b", 1, 1), ("b", "c", 1, 1)]
        for gates in ("a b c", "a* b c", "a b* c", "a b c*", "a* b* c*"):
            with self.subTest(gates=gates):
                told = guess(build(gates, roads), [(0, "a"), (2, "b"), (5, "c")])
                self.assertEqual(told, ("way", 2, [0, 1], [("a", 0), ("b", 2), ("c", 5)]))

    def test_a_blind_gate_of_a_sighting_may_be_passed_between_others(self):
        # c is blind now: the car passes it unseen on its way to d, and is seen there later.
        net = build("a c* d", [("a", "c", 1, 1), ("c", "d", 1, 1), ("d", "c", 1, 1)])
        self.assertEqual(
            guess(net, [(0, "a"), (5, "d"), (9, "c")]),
            ("way", 3, [0, 1, 2], [("a", 0), ("c", 1), ("d", 5), ("c", 9)]))

    def test_large_numbers(self):
        net = build("a b* c", [("a", "b", MILLION, MILLION), ("b", "c", MILLION, MILLION)])
        self.assertEqual(
            guess(net, [(LAST - 2 * MILLION, "a"), (LAST, "c")]),
            ("way", 2 * MILLION, [0, 1],
             [("a", LAST - 2 * MILLION), ("b", LAST - MILLION), ("c", LAST)]))


class SeveralLegs(unittest.TestCase):

    def setUp(self):
        # Between a and b a cheap slow road and a dear quick one, both ways.
        self.net = build("a b", [
            ("a", "b", 10, 1), ("a", "b", 2, 7), ("b", "a", 10, 2), ("b", "a", 2, 30)])

    def test_each_leg_has_its_own_time(self):
        self.assertEqual(
            guess(self.net, [(0, "a"), (10, "b"), (12, "a"), (14, "b"), (50, "a")]),
            ("way", 40, [0, 3, 1, 2], [("a", 0), ("b", 10), ("a", 12), ("b", 14), ("a", 50)]))

    def test_time_left_of_one_leg_helps_no_other_one(self):
        self.assertEqual(guess(self.net, [(0, "a"), (99, "b"), (100, "a")]), ("none", 1))
        self.assertEqual(guess(self.net, [(0, "a"), (99, "b"), (108, "a")])[1], 31)
        self.assertEqual(guess(self.net, [(0, "a"), (99, "b"), (109, "a")])[1], 3)

    def test_a_leg_begins_at_the_time_of_its_sighting(self):
        net = build("a b* c", [
            ("a", "b", 1, 1), ("b", "c", 1, 1), ("c", "b", 1, 1), ("b", "a", 1, 1)])
        self.assertEqual(
            guess(net, [(3, "a"), (20, "c"), (70, "a")]),
            ("way", 4, [0, 1, 2, 3], [("a", 3), ("b", 4), ("c", 20), ("b", 21), ("a", 70)]))

    def test_none_tells_the_first_place_from_which_nothing_leads_on(self):
        seen = [(0, "a"), (2, "b"), (4, "a"), (6, "b"), (8, "a")]
        self.assertEqual(guess(self.net, seen)[:2], ("way", 74))
        for place in range(4):
            with self.subTest(place=place):
                # All that comes behind the place comes a minute too early.
                late = [
                    (time - 1 if k > place else time, gate)
                    for k, (time, gate) in enumerate(seen)]
                self.assertEqual(guess(self.net, late), ("none", place))

    def test_of_several_such_places_the_first(self):
        seen = [(0, "a"), (2, "b"), (3, "a"), (5, "b"), (6, "a")]
        self.assertEqual(guess(self.net, seen), ("none", 1))
        self.assertEqual(guess(self.net, seen[2:]), ("none", 1))
        self.assertEqual(guess(self.net, seen[3:]), ("none", 0))

    def test_many_legs(self):
        seen = [(2 * k, "ab"[k % 2]) for k in range(501)]
        told = guess(self.net, seen)
        self.assertEqual(told[:3], ("way", 250 * 37, [1, 3] * 250))
        self.assertEqual(told[3], [(gate, time) for time, gate in seen])

    def test_sightings_as_lists_are_pairs_too(self):
        self.assertEqual(
            guess(self.net, [[0, "a"], [10, "b"]]), ("way", 1, [0], [("a", 0), ("b", 10)]))


class LateSightings(unittest.TestCase):

    def test_however_late(self):
        net = build("a b* c", [("a", "b", 1, 1), ("b", "c", 1, 1)])
        for late in (LAST + 1, 10 ** 12, 10 ** 30):
            with self.subTest(late=late):
                self.assertEqual(guess(net, [(late, "a")]), ("way", 0, [], [("a", late)]))
                self.assertEqual(
                    guess(net, [(0, "a"), (late, "c")]),
                    ("way", 2, [0, 1], [("a", 0), ("b", 1), ("c", late)]))
                self.assertEqual(
                    guess(net, [(late, "a"), (late + 2, "c")]),
                    ("way", 2, [0, 1], [("a", late), ("b", late + 1), ("c", late + 2)]))
                self.assertEqual(guess(net, [(late, "a"), (late + 1, "c")]), ("none", 0))


class Refusals(unittest.TestCase):

    def setUp(self):
        self.net = build("a b", [("a", "b", 1, 1)])

    def refused(self, refusal, seen, net=None):
        """Such sightings are refused by just that class; they and the net are as they were."""
        net = self.net if net is None else net
        ahead, copy = snapshot(net), list(seen)
        with self.assertRaises(TollError) as caught:
            guess(net, seen)
        self.assertIs(type(caught.exception), refusal)
        self.assertEqual((snapshot(net), seen), (ahead, copy))

    def test_no_sight(self):
        self.refused(NoSight, [])
        self.refused(NoSight, [], Net())

    def test_no_gate(self):
        self.refused(NoGate, [(0, "c")])
        self.refused(NoGate, [(0, "")])
        self.refused(NoGate, [(0, "A")])
        self.refused(NoGate, [(0, "a"), (5, "c")])
        self.refused(NoGate, [(0, "a"), (5, "b"), (9, "c")])
        self.refused(NoGate, [(0, "a")], Net())

    def test_no_time(self):
        self.refused(NoTime, [(-1, "a")])
        self.refused(NoTime, [(-1, "a"), (5, "b")])
        self.refused(NoTime, [(-LAST, "a"), (-LAST, "b")])
        self.refused(NoTime, [(5, "a"), (4, "b")])
        self.refused(NoTime, [(5, "a"), (-1, "b")])
        self.refused(NoTime, [(0, "a"), (5, "b"), (4, "a")])
        self.refused(NoTime, [(LAST + 5, "a"), (LAST + 4, "b")])
        # It is above the first but below the one ahead.
        self.refused(NoTime, [(0, "a"), (9, "b"), (5, "a"), (7, "b")])

    def test_a_time_of_0_and_one_like_the_one_ahead_are_let_by(self):
        self.assertEqual(guess(self.net, [(0, "a"), (0, "b")]), ("none", 0))
        self.assertEqual(guess(self.net, [(0, "a"), (1, "b")])[:3], ("way", 1, [0]))

    def test_at_one_sighting_the_gate_comes_ahead_of_the_time(self):
        self.refused(NoGate, [(-1, "c")])
        self.refused(NoGate, [(5, "a"), (4, "c")])
        self.refused(NoGate, [(5, "a"), (-1, "c")])

    def test_sighting_by_sighting(self):
        self.refused(NoTime, [(-1, "a"), (0, "c")])
        self.refused(NoTime, [(5, "a"), (4, "b"), (9, "c")])
        self.refused(NoGate, [(5, "c"), (4, "b")])
        self.refused(NoGate, [(5, "a"), (9, "c"), (4, "b")])
        self.refused(NoGate, [(5, "c"), (-1, "b")])

    def test_refusals_come_ahead_of_none(self):
        self.assertEqual(guess(self.net, [(0, "b"), (9, "a"), (10, "a")]), ("none", 0))
        self.refused(NoGate, [(0, "b"), (9, "a"), (10, "c")])
        self.refused(NoTime, [(0, "b"), (9, "a"), (8, "a")])

    def test_blind_gates_are_not_refused(self):
        self.net.blind("a")
        self.net.blind("b")
        self.assertEqual(guess(self.net, [(0, "a"), (5, "b")])[:3], ("way", 1, [0]))


class DrawnNets(unittest.TestCase):

    def check(self, net, seen):
        """What is told against all ways there are; it is True where one fits."""
        told = guess(net, seen)
        apart = first_apart(net, seen)
        if apart is not None:
            self.assertEqual(told, ("none", apart))
            return False
        ways = all_ways(net, seen)
        kind, toll, roads, passed = told
        self.assertEqual((kind, toll), ("way", min(ways)[0]))
        self.assertIn((toll, roads), ways)
        self.assertIn(passed, passed_lists(net, seen, roads))
        return True

    def test_small_nets_against_a_plain_search_of_all_ways(self):
        fitting = [0] * 6
        for seed in range(1500):
            gates = 2 + seed % 4
            net = drawn_net(8000 + seed, gates, gates * 2 + seed % 9, 4, 6)
            many = 1 + seed % 4
            with self.subTest(seed=seed):
                fitting[many] += self.check(net, drawn_sightings(net, seed, many, 7))
        # Ways of two and three legs are among them, not only single drives.
        self.assertEqual(fitting[1], 375)
        for many in (2, 3, 4):
            self.assertGreater(fitting[many], 20)

    def test_large_nets_leg_by_leg(self):
        for seed in range(20):
            net = drawn_net(9000 + seed, 60, 200, 9, 9)
            seen = drawn_sightings(net, seed, 6, 120)
            told = guess(net, seen)
            legs = [
                leg(net, gate, other, later - time)
                for (time, gate), (later, other) in zip(seen, seen[1:])]
            with self.subTest(seed=seed):
                if None in legs:
                    self.assertEqual(told, ("none", legs.index(None)))
                    continue
                self.assertEqual(told[1], sum(found[0] for found in legs))
                self.assertIn(told[3], passed_lists(net, seen, told[2]))


if __name__ == "__main__":
    unittest.main()
