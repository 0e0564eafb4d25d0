"""Points 4, 5 and 6: the net, what is put and changed, and what it tells."""

import unittest

from tests.helpers import MILLION, build, full_of_gates
from tollguess.errors import Already, FullNet, NoGate
from tollguess.nets import Net


class Gates(unittest.TestCase):

    def test_a_net_begins_with_nothing(self):
        self.assertEqual(Net().gates(), [])
        self.assertEqual(Net().roads(), [])

    def test_gates_come_in_their_turn(self):
        net = Net()
        self.assertIsNone(net.gate("m", True))
        self.assertIsNone(net.gate("a", False))
        self.assertIsNone(net.gate("z9", True))
        self.assertEqual(net.gates(), [("m", True), ("a", False), ("z9", True)])

    def test_told_are_pairs_with_a_truth(self):
        net = build("a b*", [])
        self.assertIs(type(net.gates()), list)
        for pair in net.gates():
            self.assertIs(type(pair), tuple)
            self.assertIs(type(pair[1]), bool)

    def test_blind_and_mend_leave_the_turn(self):
        net = build("c a* b", [])
        self.assertIsNone(net.blind("c"))
        self.assertIsNone(net.mend("a"))
        self.assertEqual(net.gates(), [("c", False), ("a", True), ("b", True)])
        net.mend("c")
        self.assertEqual(net.gates(), [("c", True), ("a", True), ("b", True)])

    def test_the_60th_gate_but_not_the_61st(self):
        net = Net()
        for k in range(60):
            net.gate(f"g{k}", k < 30)
        with self.assertRaises(FullNet):
            net.gate("g60", True)
        self.assertEqual(net.gates(), [(f"g{k}", k < 30) for k in range(60)])

    def test_a_full_net_takes_roads_and_changes(self):
        net = full_of_gates()
        self.assertEqual(net.road("g0", "g59", 1, 0), 0)
        net.blind("g59")
        self.assertEqual(net.gates()[59], ("g59", False))


class Roads(unittest.TestCase):

    def test_roads_are_numbered_as_they_came(self):
        net = build("a b c", [])
        self.assertEqual(net.road("c", "a", 7, 3), 0)
        self.assertEqual(net.road("a", "b", 1, 0), 1)
        self.assertEqual(net.road("b", "a", MILLION, MILLION), 2)
        self.assertEqual(net.roads(), [
            ("c", "a", 7, 3, True), ("a", "b", 1, 0, True),
            ("b", "a", MILLION, MILLION, True)])

    def test_a_number_is_no_truth(self):
        net = build("a b", [])
        self.assertIs(type(net.road("a", "b", 1, 0)), int)
        self.assertIs(type(net.roads()), list)
        self.assertIs(type(net.roads()[0]), tuple)
        self.assertIs(type(net.roads()[0][4]), bool)

    def test_several_roads_from_one_gate_to_another(self):
        net = build("a b", [("a", "b", 1, 2), ("a", "b", 1, 2), ("a", "b", 3, 0)])
        self.assertEqual(net.roads(), [
            ("a", "b", 1, 2, True), ("a", "b", 1, 2, True), ("a", "b", 3, 0, True)])
        net.close(1)
        self.assertEqual([road[4] for road in net.roads()], [True, False, True])

    def test_close_and_reopen(self):
        net = build("a b", [("a", "b", 1, 2), ("b", "a", 4, 5)])
        self.assertIsNone(net.close(0))
        self.assertEqual(net.roads(), [("a", "b", 1, 2, False), ("b", "a", 4, 5, True)])
        self.assertIsNone(net.reopen(0))
        self.assertEqual(net.roads(), [("a", "b", 1, 2, True), ("b", "a", 4, 5, True)])
        net.close(0)
        with self.assertRaises(Already):
            net.close(0)

    def test_a_closed_road_keeps_its_number(self):
        net = build("a b", [("a", "b", 1, 2)])
        net.close(0)
        self.assertEqual(net.road("a", "b", 1, 2), 1)

    def test_the_200th_road_but_not_the_201st(self):
        net = build("a b c", [])
        for k in range(200):
            self.assertEqual(net.road("a", ("b", "c")[k % 2], k + 1, k), k)
        net.close(0)
        net.close(199)
        with self.assertRaises(FullNet):
            net.road("b", "c", 1, 0)
        self.assertEqual(len(net.roads()), 200)
        self.assertEqual(net.roads()[199], ("a", "c", 200, 199, False))
        net.gate("d", True)
        net.reopen(199)
        self.assertEqual(net.roads()[199], ("a", "c", 200, 199, True))


class Leaving(unittest.TestCase):

    def test_open_roads_of_that_gate_rising(self):
        net = build("a b c*", [
            ("a", "b", 9, 9), ("b", "a", 1, 1), ("a", "c", 1, 1), ("c", "a", 1, 1),
            ("a", "b", 1, 1)])
        self.assertEqual(net.leaving("a"), [0, 2, 4])
        self.assertEqual(net.leaving("b"), [1])
        self.assertEqual(net.leaving("c"), [3])
        net.close(2)
        self.assertEqual(net.leaving("a"), [0, 4])
        net.close(0)
        self.assertEqual(net.leaving("a"), [4])
        net.reopen(2)
        self.assertEqual(net.leaving("a"), [2, 4])
        net.close(4)
        net.close(2)
        self.assertEqual(net.leaving("a"), [])
        net.reopen(4)
        net.reopen(0)
        net.reopen(2)
        self.assertEqual(net.leaving("a"), [0, 2, 4])

    def test_a_gate_without_roads(self):
        net = build("a b", [("a", "b", 1, 1)])
        self.assertEqual(net.leaving("b"), [])

    def test_no_gate(self):
        net = build("a b", [("a", "b", 1, 1)])
        for name in ("c", "", "A", "ab"):
            with self.subTest(name=name):
                self.assertRaises(NoGate, net.leaving, name)


if __name__ == "__main__":
    unittest.main()
