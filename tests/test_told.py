"""Point 1: what is told is the asker's own, and asking changes nothing."""

import unittest

from tests.helpers import build, drawn_net, snapshot
from tollguess.legs import leg
from tollguess.nets import Net, is_name
from tollguess.reach import least, reached, roads_to


def small_net():
    return build("a b* c", [
        ("a", "b", 2, 3), ("b", "c", 2, 3), ("a", "c", 9, 1), ("c", "a", 1, 1)])


def change_all(net):
    """Change a small net by each of its methods that do."""
    net.close(0)
    net.close(2)
    net.reopen(2)
    net.road("a", "c", 1, 0)
    net.gate("d", True)
    net.road("c", "d", 1, 0)
    net.mend("b")
    net.blind("c")


def asked(net):
    """All that is asked of a small net, lists of it as they were told."""
    rows = reached(net, "a", 20)
    return {
        "gates": net.gates(),
        "roads": net.roads(),
        "leaving": net.leaving("a"),
        "rows": rows,
        "roads_to": roads_to(rows, least(rows, "c")),
        "leg": leg(net, "a", "c", 5)[2],
    }


class Told(unittest.TestCase):

    def test_lists_told_ahead_stay_when_the_net_changes(self):
        net = small_net()
        told = asked(net)
        kept = {word: list(rows) for word, rows in told.items()}
        change_all(net)
        self.assertEqual(told, kept)
        again = asked(net)
        self.assertEqual(told, kept)
        for word in ("gates", "roads", "leaving", "rows", "leg"):
            self.assertNotEqual(again[word], kept[word])

    def test_a_changed_list_changes_nothing_here(self):
        net = small_net()
        ahead = asked(net)
        for word in ahead:
            for spoil in (lambda rows: rows.clear(),
                          lambda rows: rows.append(("z", 1, 1, 1, True)),
                          lambda rows: rows.reverse()):
                with self.subTest(word=word):
                    spoil(asked(net)[word])
                    self.assertEqual(asked(net), ahead)

    def test_each_asking_tells_a_list_of_its_own(self):
        net = small_net()
        one, other = asked(net), asked(net)
        for word in one:
            self.assertIsNot(one[word], other[word])

    def test_the_rows_of_a_list_are_tuples(self):
        for word in ("gates", "roads", "rows"):
            for row in asked(small_net())[word]:
                self.assertIs(type(row), tuple)

    def test_two_nets_stand_by_themselves(self):
        one, other = small_net(), small_net()
        ahead = asked(other)
        change_all(one)
        self.assertEqual(asked(other), ahead)
        self.assertEqual(Net().gates(), [])
        self.assertEqual(Net().roads(), [])

    def test_asking_changes_nothing(self):
        net = small_net()
        ahead = snapshot(net)
        is_name("a")
        for limit in (0, 3, 100):
            rows = reached(net, "a", limit)
            for name in ("a", "b", "c"):
                least(rows, name)
                leg(net, "a", name, limit)
            for place in range(len(rows)):
                roads_to(rows, place)
        self.assertEqual(snapshot(net), ahead)

    def test_the_same_asked_again_is_told_the_same(self):
        for seed in range(30):
            net = drawn_net(seed, 6, 14, 3, 2)
            first = reached(net, "g0", 9)
            second = reached(net, "g0", 9)
            self.assertEqual(first, second)
            for name, sees in net.gates():
                self.assertEqual(leg(net, "g0", name, 9), leg(net, "g0", name, 9))
            # Of drives alike the same ones are told of a net made anew, too.
            self.assertEqual(reached(drawn_net(seed, 6, 14, 3, 2), "g0", 9), first)

    def test_what_was_changed_back_is_told_as_ahead(self):
        net = small_net()
        ahead = asked(net)
        net.mend("b")
        net.close(1)
        net.reopen(1)
        net.blind("b")
        self.assertEqual(asked(net), ahead)

    def test_rows_handed_in_stay(self):
        rows = reached(small_net(), "a", 20)
        kept = list(rows)
        for name in ("a", "b", "c", "d"):
            least(rows, name)
        for place in range(len(rows)):
            roads_to(rows, place)
        self.assertEqual(rows, kept)

    def test_rows_are_read_alone_whatever_became_of_the_net(self):
        net = small_net()
        rows = reached(net, "a", 20)
        place = least(rows, "c")
        roads = roads_to(rows, place)
        change_all(net)
        self.assertEqual(least(rows, "c"), place)
        self.assertEqual(roads_to(rows, place), roads)

    def test_changing_the_rows_changes_no_roads_told(self):
        rows = reached(small_net(), "a", 20)
        roads = roads_to(rows, len(rows) - 1)
        kept = list(roads)
        rows.clear()
        self.assertEqual(roads, kept)


if __name__ == "__main__":
    unittest.main()
