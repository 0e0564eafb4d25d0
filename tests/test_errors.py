"""Point 2: the refusals, which comes first, and that nothing changes by them."""

import unittest

from tests.helpers import MILLION, build, full_of_gates, full_of_roads, snapshot
from tollguess import errors
from tollguess.errors import (
    Already, FullNet, NoGate, NoName, NoNumber, NoRoad, SameGate, TollError)
from tollguess.legs import leg
from tollguess.reach import reached

NAMES = [
    "NoName", "SameGate", "FullNet", "NoGate", "NoNumber", "NoRoad",
    "Already", "NoTime", "Blind", "NoCar", "NoSight"]


class Classes(unittest.TestCase):

    def test_the_twelve_classes_are_defined_here(self):
        for name in NAMES + ["TollError"]:
            with self.subTest(name=name):
                self.assertEqual(getattr(errors, name).__module__, "tollguess.errors")

    def test_each_stands_under_toll_error_and_value_error(self):
        self.assertTrue(issubclass(TollError, ValueError))
        for name in NAMES:
            with self.subTest(name=name):
                self.assertTrue(issubclass(getattr(errors, name), TollError))
                self.assertIsNot(getattr(errors, name), TollError)

    def test_none_stands_under_another(self):
        for name in NAMES:
            for other in NAMES:
                if name != other:
                    with self.subTest(name=name, other=other):
                        self.assertFalse(
                            issubclass(getattr(errors, name), getattr(errors, other)))

    def test_toll_error_stands_under_none_of_them(self):
        for name in NAMES:
            self.assertFalse(issubclass(TollError, getattr(errors, name)))


class Refusals(unittest.TestCase):

    def refused(self, refusal, net, deed, *told):
        """The deed is refused by just that class, and the net is as it was."""
        ahead = snapshot(net)
        with self.assertRaises(TollError) as caught:
            deed(*told)
        self.assertIs(type(caught.exception), refusal)
        self.assertEqual(snapshot(net), ahead)

    def test_gate_no_name(self):
        net = build("a", [])
        for name in ("", "A", "1a", "ninesigns", "a_b"):
            with self.subTest(name=name):
                self.refused(NoName, net, net.gate, name, True)
        net.gate("b1", False)
        self.assertEqual(net.gates(), [("a", True), ("b1", False)])

    def test_gate_same_gate(self):
        net = build("a b*", [])
        self.refused(SameGate, net, net.gate, "a", False)
        self.refused(SameGate, net, net.gate, "b", False)
        self.refused(SameGate, net, net.gate, "b", True)
        net.gate("c", True)
        self.assertEqual(net.gates(), [("a", True), ("b", False), ("c", True)])

    def test_gate_full_net_comes_last(self):
        net = full_of_gates()
        self.refused(FullNet, net, net.gate, "more", True)
        self.refused(NoName, net, net.gate, "More", True)
        self.refused(SameGate, net, net.gate, "g0", True)
        self.refused(SameGate, net, net.gate, "g59", False)

    def test_road_no_gate(self):
        net = build("a b", [])
        self.refused(NoGate, net, net.road, "x", "b", 1, 0)
        self.refused(NoGate, net, net.road, "a", "x", 1, 0)
        self.refused(NoGate, net, net.road, "x", "y", 1, 0)
        self.refused(NoGate, net, net.road, "", "b", 1, 0)
        self.refused(NoGate, net, net.road, "a", "B", 1, 0)
        self.assertEqual(net.road("a", "b", 1, 0), 0)

    def test_road_same_gate(self):
        net = build("a b*", [])
        self.refused(SameGate, net, net.road, "a", "a", 1, 0)
        self.refused(SameGate, net, net.road, "b", "b", 1, 0)
        self.assertEqual(net.road("b", "a", 1, 0), 0)

    def test_road_no_number(self):
        net = build("a b", [])
        for minutes in (0, -1, -MILLION, MILLION + 1, 10 ** 30):
            with self.subTest(minutes=minutes):
                self.refused(NoNumber, net, net.road, "a", "b", minutes, 0)
        for toll in (-1, -MILLION, MILLION + 1, 10 ** 30):
            with self.subTest(toll=toll):
                self.refused(NoNumber, net, net.road, "a", "b", 1, toll)
        self.refused(NoNumber, net, net.road, "a", "b", 0, -1)
        self.assertEqual(net.road("a", "b", 1, 0), 0)
        self.assertEqual(net.road("a", "b", MILLION, MILLION), 1)
        self.assertEqual(net.road("a", "b", 1, MILLION), 2)
        self.assertEqual(net.road("a", "b", MILLION, 0), 3)

    def test_road_full_net(self):
        net = full_of_roads()
        self.refused(FullNet, net, net.road, "a", "b", 1, 0)
        self.refused(FullNet, net, net.road, "b", "a", MILLION, MILLION)
        for number in range(200):
            net.close(number)
        self.refused(FullNet, net, net.road, "a", "b", 1, 0)

    def test_road_with_several_faults_tells_the_first(self):
        # Each fault is more due than all those behind it.
        for net, is_full in ((build("a b", []), False), (full_of_roads(), True)):
            with self.subTest(is_full=is_full):
                self.refused(NoGate, net, net.road, "x", "x", 1, 0)
                self.refused(NoGate, net, net.road, "x", "x", 0, -1)
                self.refused(NoGate, net, net.road, "x", "b", 0, 0)
                self.refused(NoGate, net, net.road, "a", "x", 1, -1)
                self.refused(SameGate, net, net.road, "a", "a", 0, 0)
                self.refused(SameGate, net, net.road, "b", "b", 1, MILLION + 1)
                self.refused(NoNumber, net, net.road, "a", "b", 0, 0)
                self.refused(NoNumber, net, net.road, "a", "b", 1, -1)

    def test_blind_and_mend(self):
        net = build("a b*", [])
        for name in ("x", "", "A", "a "):
            with self.subTest(name=name):
                self.refused(NoGate, net, net.blind, name)
                self.refused(NoGate, net, net.mend, name)
        self.refused(Already, net, net.blind, "b")
        self.refused(Already, net, net.mend, "a")
        net.blind("a")
        net.mend("b")
        self.assertEqual(net.gates(), [("a", False), ("b", True)])
        self.refused(Already, net, net.blind, "a")
        self.refused(Already, net, net.mend, "b")

    def test_close_and_reopen(self):
        net = build("a b", [("a", "b", 1, 0), ("b", "a", 2, 5)])
        net.close(1)
        for number in (-1, -2, -3, 2, 3, 200, 10 ** 9):
            with self.subTest(number=number):
                self.refused(NoRoad, net, net.close, number)
                self.refused(NoRoad, net, net.reopen, number)
        self.refused(Already, net, net.close, 1)
        self.refused(Already, net, net.reopen, 0)
        net.close(0)
        net.reopen(1)
        self.assertEqual(
            net.roads(), [("a", "b", 1, 0, False), ("b", "a", 2, 5, True)])
        self.refused(Already, net, net.close, 0)
        self.refused(Already, net, net.reopen, 1)

    def test_close_and_reopen_where_there_is_no_road(self):
        net = build("a b", [])
        for number in (-1, 0, 1):
            self.refused(NoRoad, net, net.close, number)
            self.refused(NoRoad, net, net.reopen, number)

    def test_leaving(self):
        net = build("a b", [("a", "b", 1, 0)])
        self.refused(NoGate, net, net.leaving, "x")
        self.refused(NoGate, net, net.leaving, "")

    def test_reached(self):
        net = build("a b", [("a", "b", 1, 0)])
        self.refused(NoGate, net, reached, net, "x", 5)
        self.refused(NoGate, net, reached, net, "x", -1)
        self.refused(NoNumber, net, reached, net, "a", -1)
        self.refused(NoNumber, net, reached, net, "a", -MILLION)
        self.assertEqual(reached(net, "a", 0), [("a", 0, 0, -1, -1)])

    def test_leg(self):
        net = build("a b", [("a", "b", 1, 0)])
        self.refused(NoGate, net, leg, net, "x", "b", 5)
        self.refused(NoGate, net, leg, net, "a", "x", 5)
        self.refused(NoGate, net, leg, net, "x", "x", 5)
        self.refused(NoGate, net, leg, net, "x", "b", -1)
        self.refused(NoGate, net, leg, net, "a", "x", -1)
        self.refused(NoNumber, net, leg, net, "a", "b", -1)
        self.refused(NoNumber, net, leg, net, "a", "a", -1)
        self.assertEqual(leg(net, "a", "b", 1), (0, 1, [0]))


if __name__ == "__main__":
    unittest.main()
