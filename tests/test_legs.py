"""Points 7 and 10: the cheapest drive from a gate to a gate."""

import unittest

from tests.helpers import (
    MILLION, all_drives, best_by_minutes, build, drawn_net, drive_faults)
from tollguess.errors import NoGate, NoNumber
from tollguess.legs import leg
from tollguess.reach import least, reached


class Leg(unittest.TestCase):

    def test_a_tuple_with_a_list(self):
        net = build("a b* c", [("b", "c", 2, 3), ("a", "b", 4, 5)])
        told = leg(net, "a", "c", 6)
        self.assertEqual(told, (8, 6, [1, 0]))
        self.assertIs(type(told), tuple)
        self.assertIs(type(told[2]), list)

    def test_none_where_no_drive_leads(self):
        net = build("a b c d", [("a", "b", 1, 1), ("b", "c", 1, 1)])
        self.assertIsNone(leg(net, "b", "a", 99))
        self.assertIsNone(leg(net, "a", "d", 99))
        self.assertIsNone(leg(net, "a", "c", 99))
        net.blind("b")
        self.assertEqual(leg(net, "a", "c", 99), (2, 2, [0, 1]))
        net.close(1)
        self.assertIsNone(leg(net, "a", "c", 99))

    def test_none_where_each_drive_takes_too_long(self):
        net = build("a b* c", [("a", "b", 3, 0), ("b", "c", 4, 0)])
        self.assertEqual(leg(net, "a", "c", 7), (0, 7, [0, 1]))
        self.assertIsNone(leg(net, "a", "c", 6))
        self.assertIsNone(leg(net, "a", "b", 2))
        self.assertIsNone(leg(net, "a", "b", 0))

    def test_from_a_gate_to_itself_takes_a_road_at_least(self):
        net = build("a b*", [])
        self.assertIsNone(leg(net, "a", "a", 0))
        self.assertIsNone(leg(net, "a", "a", 99))
        net.road("a", "b", 2, 3)
        self.assertIsNone(leg(net, "a", "a", 99))
        net.road("b", "a", 4, 5)
        self.assertEqual(leg(net, "a", "a", 99), (8, 6, [0, 1]))
        self.assertEqual(leg(net, "b", "b", 99), None)
        net.blind("a")
        self.assertEqual(leg(net, "b", "b", 99), (8, 6, [1, 0]))
        net.mend("b")
        self.assertIsNone(leg(net, "a", "a", 99))

    def test_the_least_toll(self):
        net = build("a b", [("a", "b", 1, 9), ("a", "b", 9, 1), ("a", "b", 5, 5)])
        self.assertEqual(leg(net, "a", "b", 99), (1, 9, [1]))
        self.assertEqual(leg(net, "a", "b", 9), (1, 9, [1]))
        self.assertEqual(leg(net, "a", "b", 8), (5, 5, [2]))
        self.assertEqual(leg(net, "a", "b", 4), (9, 1, [0]))

    def test_of_those_the_least_minutes(self):
        net = build("a b* c", [
            ("a", "c", 9, 4), ("a", "c", 8, 4), ("a", "b", 3, 2), ("b", "c", 4, 2),
            ("a", "c", 1, 5)])
        self.assertEqual(leg(net, "a", "c", 99), (4, 7, [2, 3]))

    def test_limits_of_large_numbers(self):
        net = build("a b* c", [("a", "b", MILLION, MILLION), ("b", "c", MILLION, MILLION)])
        told = (2 * MILLION, 2 * MILLION, [0, 1])
        self.assertEqual(leg(net, "a", "c", 2 * MILLION), told)
        self.assertEqual(leg(net, "a", "c", 10 ** 30), told)
        self.assertIsNone(leg(net, "a", "c", 2 * MILLION - 1))

    def test_refusals_in_their_order(self):
        net = build("a b", [("a", "b", 1, 1)])
        self.assertRaises(NoGate, leg, net, "x", "b", 5)
        self.assertRaises(NoGate, leg, net, "a", "x", 5)
        self.assertRaises(NoGate, leg, net, "x", "b", -1)
        self.assertRaises(NoGate, leg, net, "a", "x", -1)
        self.assertRaises(NoNumber, leg, net, "a", "b", -1)
        self.assertRaises(NoNumber, leg, net, "b", "a", -1)


class DrawnNets(unittest.TestCase):

    def check(self, net, one, other, limit, wanted):
        """Of wanted, the tolls and minutes of drives, the least is told."""
        told = leg(net, one, other, limit)
        if not wanted:
            self.assertIsNone(told)
            return
        toll, minutes, roads = told
        self.assertEqual((toll, minutes), min(wanted))
        self.assertGreater(len(roads), 0)
        self.assertEqual(drive_faults(net, one, other, minutes, toll, roads), [])

    def test_small_nets_against_a_plain_search(self):
        for seed in range(150):
            net = drawn_net(5000 + seed, 5, 4 + seed % 11, 4, 5)
            for limit in (0, 2, 5, 9):
                drives = all_drives(net, "g0", limit)
                for other, sees in net.gates():
                    with self.subTest(seed=seed, limit=limit, other=other):
                        wanted = [(row[2], row[1]) for row in drives if row[0] == other]
                        self.check(net, "g0", other, limit, wanted)

    def test_a_net_of_60_gates_and_200_roads(self):
        net = drawn_net(6000, 60, 200, 9, 9)
        for limit in (15, 50):
            best = best_by_minutes(net, "g3", limit)
            for other, sees in net.gates():
                with self.subTest(limit=limit, other=other):
                    wanted = [(row[2], row[1]) for row in best if row[0] == other]
                    self.check(net, "g3", other, limit, wanted)

    def test_it_is_the_least_row_of_what_is_reached(self):
        for seed in range(40):
            net = drawn_net(7000 + seed, 20, 60, 50, 50)
            rows = reached(net, "g0", 150)
            for other, sees in net.gates():
                place = least(rows, other)
                wanted = [] if place is None else [(rows[place][2], rows[place][1])]
                self.check(net, "g0", other, 150, wanted)


if __name__ == "__main__":
    unittest.main()
