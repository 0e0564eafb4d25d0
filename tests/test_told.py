"""Point 1: what is told is the asker's own, and asking changes nothing."""

import unittest

from tests.helpers import build, drawn_net, drawn_sightings, kept, snapshot, watch_of
from tollguess.bills import bill, total
from tollguess.errors import TollError
from tollguess.guesses import guess
from tollguess.legs import leg
from tollguess.nets import Net, is_name
from tollguess.reach import least, reached, roads_to
from tollguess.watches import Watch


def small_net():
    return build("a b* c", [
        ("a", "b", 2, 3), ("b", "c", 2, 3), ("a", "c", 9, 1), ("c", "a", 1, 1)])


def change_all(net):
    """Change a small net by each of its methods that do."""
    net.close(0)
    net.close(2)
    net.reopen(2)
    net.road("a", "c", 1, 0)
    net.gate("d", True)
    net.road("c", "d", 1, 0)
    net.mend("b")
    net.blind("c")


def asked(net):
    """All that is asked of a small net, lists of it as they were told."""
    rows = reached(net, "a", 20)
    return {
        "gates": net.gates(),
        "roads": net.roads(),
        "leaving": net.leaving("a"),
        "rows": rows,
        "roads_to": roads_to(rows, least(rows, "c")),
        "leg": leg(net, "a", "c", 5)[2],
    }


class Told(unittest.TestCase):

    def test_lists_told_ahead_stay_when_the_net_changes(self):
        net = small_net()
        told = asked(net)
        kept = {word: list(rows) for word, rows in told.items()}
        change_all(net)
        self.assertEqual(told, kept)
        again = asked(net)
        self.assertEqual(told, kept)
        for word in ("gates", "roads", "leaving", "rows", "leg"):
            self.assertNotEqual(again[word], kept[word])

    def test_a_changed_list_changes_nothing_here(self):
        net = small_net()
        ahead = asked(net)
        for word in ahead:
            for spoil in (lambda rows: rows.clear(),
                          lambda rows: rows.append(("z", 1, 1, 1, True)),
                          lambda rows: rows.reverse()):
                with self.subTest(word=word):
                    spoil(asked(net)[word])
                    self.assertEqual(asked(net), ahead)

    def test_each_asking_tells_a_list_of_its_own(self):
        net = small_net()
        one, other = asked(net), asked(net)
        for word in one:
            self.assertIsNot(one[word], other[word])

    def test_the_rows_of_a_list_are_tuples(self):
        for word in ("gates", "roads", "rows"):
            for row in asked(small_net())[word]:
                self.assertIs(type(row), tuple)

    def test_two_nets_stand_by_themselves(self):
        one, other = small_net(), small_net()
        ahead = asked(other)
        change_all(one)
        self.assertEqual(asked(other), ahead)
        self.assertEqual(Net().gates(), [])
        self.assertEqual(Net().roads(), [])

    def test_asking_changes_nothing(self):
        net = small_net()
        ahead = snapshot(net)
        is_name("a")
        for limit in (0, 3, 100):
            rows = reached(net, "a", limit)
            for name in ("a", "b", "c"):
                least(rows, name)
                leg(net, "a", name, limit)
            for place in range(len(rows)):
                roads_to(rows, place)
        self.assertEqual(snapshot(net), ahead)

    def test_the_same_asked_again_is_told_the_same(self):
        for seed in range(30):
            net = drawn_net(seed, 6, 14, 3, 2)
            first = reached(net, "g0", 9)
            second = reached(net, "g0", 9)
            self.assertEqual(first, second)
            for name, sees in net.gates():
                self.assertEqual(leg(net, "g0", name, 9), leg(net, "g0", name, 9))
            # Of drives alike the same ones are told of a net made anew, too.
            self.assertEqual(reached(drawn_net(seed, 6, 14, 3, 2), "g0", 9), first)

    def test_what_was_changed_back_is_told_as_ahead(self):
        net = small_net()
        ahead = asked(net)
        net.mend("b")
        net.close(1)
        net.reopen(1)
        net.blind("b")
        self.assertEqual(asked(net), ahead)

    def test_rows_handed_in_stay(self):
        rows = reached(small_net(), "a", 20)
        kept = list(rows)
        for name in ("a", "b", "c", "d"):
            least(rows, name)
        for place in range(len(rows)):
            roads_to(rows, place)
        self.assertEqual(rows, kept)

    def test_rows_are_read_alone_whatever_became_of_the_net(self):
        net = small_net()
        rows = reached(net, "a", 20)
        place = least(rows, "c")
        roads = roads_to(rows, place)
        change_all(net)
        self.assertEqual(least(rows, "c"), place)
        self.assertEqual(roads_to(rows, place), roads)

    def test_changing_the_rows_changes_no_roads_told(self):
        rows = reached(small_net(), "a", 20)
        roads = roads_to(rows, len(rows) - 1)
        kept = list(roads)
        rows.clear()
        self.assertEqual(roads, kept)


SPOILS = (
    lambda rows: rows.clear(),
    lambda rows: rows.append(rows[0] if rows else ("z", 1)),
    lambda rows: rows.reverse())


def small_watch(net):
    return watch_of(
        net, ("car", "a", 0), ("car", "c", 9), ("bus", "c", 5), ("bus", "a", 6), ("van", "a", 3))


def asked_of(watch):
    """All lists that are told of a small watch, as they were told."""
    kind, toll, roads, passed = guess(watch.net, watch.seen("car"))
    return {
        "seen": watch.seen("car"),
        "cars": watch.cars(),
        "roads": roads,
        "passed": passed,
        "bill": bill(watch),
    }


class ToldOfWatches(unittest.TestCase):

    def test_lists_told_ahead_stay_when_watch_and_net_change(self):
        net = small_net()
        watch = small_watch(net)
        told = asked_of(watch)
        copies = {word: list(rows) for word, rows in told.items()}
        # A road put, quicker and cheaper, and sightings more: all is told anew.
        net.close(2)
        net.road("a", "c", 1, 0)
        watch.saw("car", "a", 11)
        watch.saw("ape", "a", 11)
        watch.forget("bus")
        again = asked_of(watch)
        self.assertEqual(told, copies)
        for word in told:
            self.assertNotEqual(again[word], copies[word])
        watch.forget("car")
        self.assertEqual(told, copies)

    def test_a_changed_list_changes_nothing_here(self):
        watch = small_watch(small_net())
        ahead = asked_of(watch), kept(watch), snapshot(watch.net)
        for word in ahead[0]:
            for spoil in SPOILS:
                with self.subTest(word=word):
                    spoil(asked_of(watch)[word])
                    self.assertEqual((asked_of(watch), kept(watch), snapshot(watch.net)), ahead)

    def test_each_asking_tells_lists_of_its_own(self):
        watch = small_watch(small_net())
        one, other = asked_of(watch), asked_of(watch)
        for word in one:
            self.assertIsNot(one[word], other[word])
        for word in ("seen", "passed", "bill"):
            for row in one[word]:
                self.assertIs(type(row), tuple)

    def test_sightings_handed_to_guess_stay(self):
        net = small_net()
        for seen in ([(0, "a")], [(0, "a"), (4, "c")], [(0, "c"), (0, "a"), (9, "c")], [[0, "a"], [9, "c"]]):
            copy = [type(pair)(pair) for pair in seen]
            guess(net, seen)
            self.assertEqual(seen, copy)

    def test_changing_sightings_behind_guess_changes_nothing_told(self):
        net = small_net()
        seen = [[0, "a"], [4, "c"], [9, "a"]]
        told = guess(net, seen)
        copy = told[:2] + (list(told[2]), list(told[3]))
        seen[0][0] = 3
        seen[1][1] = "b"
        seen.pop()
        self.assertEqual(told, copy)
        seen.clear()
        self.assertEqual(told, copy)
        self.assertEqual(guess(net, [(0, "a"), (4, "c"), (9, "a")]), copy)

    def test_what_seen_told_may_be_changed_and_handed_on(self):
        watch = small_watch(small_net())
        seen = watch.seen("car")
        seen.append((20, "a"))
        self.assertEqual(guess(watch.net, seen)[1], 2)
        self.assertEqual(guess(watch.net, watch.seen("car"))[1], 1)
        self.assertEqual(bill(watch), [("bus", 1), ("car", 1), ("van", 0)])

    def test_two_watches_of_one_net_stand_by_themselves(self):
        net = small_net()
        one, other = small_watch(net), Watch(net)
        self.assertEqual(other.cars(), [])
        self.assertIs(other.saw("car", "a", 0), True)
        self.assertIs(other.saw("car", "c", 7), True)
        self.assertEqual(one.seen("car"), [(0, "a"), (9, "c")])
        one.forget("car")
        self.assertEqual(kept(other), [("car", [(0, "a"), (7, "c")])])
        other.forget("car")
        self.assertEqual(one.cars(), ["bus", "van"])
        self.assertEqual((other.cars(), bill(other), total(other)), ([], [], 0))

    def test_watches_of_two_nets_look_each_at_their_own(self):
        one, other = small_watch(small_net()), small_watch(small_net())
        first = bill(other)
        one.net.close(2)
        self.assertNotEqual(bill(one), first)
        self.assertEqual(bill(other), first)

    def test_asking_changes_nothing(self):
        watch = small_watch(small_net())
        ahead = kept(watch), snapshot(watch.net)
        for car in ("car", "bus", "van", "ape"):
            try:
                guess(watch.net, watch.seen(car))
            except TollError:
                pass
        bill(watch)
        total(watch)
        self.assertEqual((kept(watch), snapshot(watch.net)), ahead)

    def test_the_same_asked_again_is_told_the_same(self):
        for seed in range(60):
            net = drawn_net(seed, 6, 16, 3, 2)
            seen = drawn_sightings(net, seed, 3, 9)
            first = guess(net, seen)
            self.assertEqual(guess(net, seen), first)
            # Also of a net made anew, and with other things asked between.
            reached(net, "g0", 9)
            self.assertEqual(guess(drawn_net(seed, 6, 16, 3, 2), list(seen)), first)
            self.assertEqual(guess(net, seen), first)

    def test_the_turn_of_sightings_and_cars_makes_no_difference(self):
        rows = [("car", "a", 0), ("car", "c", 9), ("bus", "c", 5), ("bus", "a", 6), ("van", "a", 3)]
        one, other = watch_of(small_net(), *rows), watch_of(small_net(), *reversed(rows))
        self.assertEqual(kept(one), kept(other))
        self.assertEqual(asked_of(one), asked_of(other))

    def test_what_was_changed_back_is_told_as_ahead(self):
        net = small_net()
        watch = small_watch(net)
        ahead = asked_of(watch)
        net.mend("b")
        net.close(2)
        watch.saw("ape", "a", 1)
        watch.forget("van")
        watch.saw("van", "a", 3)
        watch.forget("ape")
        net.reopen(2)
        net.blind("b")
        self.assertEqual(asked_of(watch), ahead)

    def test_tolls_and_totals_are_numbers_and_no_truths(self):
        watch = small_watch(small_net())
        self.assertIs(type(total(watch)), int)
        self.assertIs(type(guess(watch.net, [(0, "a")])[1]), int)
        self.assertIs(type(guess(watch.net, [(0, "a"), (0, "c")])[1]), int)


if __name__ == "__main__":
    unittest.main()
