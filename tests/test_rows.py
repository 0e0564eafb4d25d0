"""Point 9: what is read off rows."""

import unittest

from tests.helpers import build, drawn_net, drive_faults
from tollguess.reach import least, reached, roads_to

FIRST = ("a", 0, 0, -1, -1)


class Least(unittest.TestCase):

    def test_the_least_toll_of_several_rows(self):
        net = build("a b c", [("a", "b", 9, 1), ("a", "b", 1, 9), ("a", "c", 5, 5)])
        rows = reached(net, "a", 20)
        self.assertEqual(least(rows, "b"), 1)
        self.assertEqual(least(rows, "c"), 2)

    def test_the_first_of_several_rows_of_one_toll(self):
        rows = [FIRST, ("c", 1, 4, 7, 0), ("b", 9, 4, 0, 0), ("b", 8, 4, 1, 0), ("b", 1, 4, 2, 0)]
        self.assertEqual(least(rows, "b"), 2)

    def test_rows_that_do_not_rise_by_toll(self):
        rows = [FIRST, ("b", 1, 9, 0, 0), ("b", 5, 3, 1, 0), ("b", 2, 3, 2, 0), ("b", 9, 4, 3, 0)]
        self.assertEqual(least(rows, "b"), 2)
        self.assertEqual(least([FIRST, ("b", 9, 2, 0, 0), ("b", 9, 1, 1, 0)], "b"), 2)

    def test_a_toll_of_0(self):
        rows = [FIRST, ("b", 9, 0, 0, 0), ("b", 8, 0, 1, 0), ("b", 7, 1, 1, 0)]
        self.assertEqual(least(rows, "b"), 1)

    def test_the_first_row_does_not_count(self):
        net = build("a b*", [("a", "b", 1, 1), ("b", "a", 1, 1)])
        rows = reached(net, "a", 20)
        self.assertEqual(least(rows, "a"), 2)
        self.assertIsNone(least(reached(net, "a", 1), "a"))
        self.assertIsNone(least([FIRST], "a"))

    def test_a_name_that_is_in_no_row(self):
        net = build("a b c", [("a", "b", 1, 1)])
        rows = reached(net, "a", 20)
        self.assertIsNone(least(rows, "c"))
        self.assertIsNone(least(rows, "nogate"))
        self.assertIsNone(least(rows, ""))

    def test_a_place_is_a_number(self):
        net = build("a b", [("a", "b", 1, 1)])
        self.assertIs(type(least(reached(net, "a", 1), "b")), int)


class RoadsTo(unittest.TestCase):

    def test_of_the_first_row_there_are_none(self):
        self.assertEqual(roads_to([FIRST], 0), [])
        net = build("a b*", [("a", "b", 1, 1), ("b", "a", 1, 1)])
        self.assertEqual(roads_to(reached(net, "a", 20), 0), [])

    def test_roads_in_order(self):
        net = build("d c* b* a", [("c", "d", 3, 3), ("a", "b", 1, 1), ("b", "c", 2, 2)])
        rows = reached(net, "a", 20)
        self.assertEqual([roads_to(rows, place) for place in range(4)], [[], [1], [1, 2], [1, 2, 0]])

    def test_road_0_and_back_0(self):
        rows = [FIRST, ("b", 1, 1, 0, 0), ("c", 2, 2, 3, 1), ("a", 3, 3, 0, 2), ("e", 1, 9, 5, 0)]
        self.assertEqual(roads_to(rows, 1), [0])
        self.assertEqual(roads_to(rows, 3), [0, 3, 0])
        self.assertEqual(roads_to(rows, 4), [5])

    def test_rows_far_down(self):
        gates = " ".join(f"g{k}*" for k in range(60))
        roads = [(f"g{k}", f"g{k + 1}", 2, k % 3) for k in range(59)]
        rows = reached(build(gates, roads), "g0", 1000)
        self.assertEqual(len(rows), 60)
        self.assertEqual(roads_to(rows, 59), list(range(59)))

    def test_each_row_of_a_large_net(self):
        net = drawn_net(77, 60, 200, 30, 30)
        rows = reached(net, "g0", 500)
        self.assertGreater(len(rows), 50)
        for place, (name, minutes, toll, road, back) in enumerate(rows):
            self.assertEqual(
                drive_faults(net, "g0", name, minutes, toll, roads_to(rows, place)), [])


if __name__ == "__main__":
    unittest.main()
