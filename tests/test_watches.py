"""Point 11: sightings of cars, kept, told and forgotten."""

import itertools
import unittest

from tests.helpers import LAST, build, kept, snapshot, watch_of
from tollguess.errors import Blind, NoCar, NoGate, NoName, NoTime, TollError
from tollguess.nets import Net
from tollguess.watches import Watch


class Sightings(unittest.TestCase):

    def test_a_watch_begins_with_nothing(self):
        self.assertEqual(Watch(Net()).cars(), [])
        self.assertEqual(Watch(build("a b*", [("a", "b", 1, 1)])).cars(), [])

    def test_new_then_known(self):
        watch = Watch(build("a b", []))
        self.assertIs(watch.saw("car", "a", 5), True)
        self.assertIs(watch.saw("car", "a", 5), False)
        self.assertEqual(watch.seen("car"), [(5, "a")])
        self.assertIs(watch.saw("car", "a", 5), False)
        self.assertEqual(kept(watch), [("car", [(5, "a")])])

    def test_another_time_gate_or_car_is_new(self):
        watch = watch_of(build("a b", []), ("car", "a", 5))
        self.assertIs(watch.saw("car", "a", 6), True)
        self.assertIs(watch.saw("car", "b", 5), True)
        self.assertIs(watch.saw("bus", "a", 5), True)
        self.assertEqual(kept(watch), [("bus", [(5, "a")]), ("car", [(5, "a"), (5, "b"), (6, "a")])])

    def test_told_are_pairs_in_a_list(self):
        watch = watch_of(build("a", []), ("car", "a", 5))
        self.assertIs(type(watch.seen("car")), list)
        self.assertIs(type(watch.seen("car")[0]), tuple)
        self.assertIs(type(watch.cars()), list)

    def test_sightings_in_any_turn_of_times(self):
        rows = [("car", "a", 3), ("car", "b", 10), ("car", "a", 9), ("car", "c", 0)]
        for turn in itertools.permutations(rows):
            watch = watch_of(build("c b a", []), *turn)
            self.assertEqual(watch.seen("car"), [(0, "c"), (3, "a"), (9, "a"), (10, "b")])

    def test_at_one_time_by_names(self):
        # The gates' turn in the net is another one than that of their names.
        gates = "z b10 ab b2 a b"
        for turn in itertools.permutations(gates.split()):
            watch = watch_of(build(gates, []), *[("car", gate, 7) for gate in turn])
            self.assertEqual(
                [gate for time, gate in watch.seen("car")], ["a", "ab", "b", "b10", "b2", "z"])

    def test_time_comes_ahead_of_names(self):
        watch = watch_of(build("a b", []), ("car", "a", 8), ("car", "b", 8), ("car", "b", 7))
        self.assertEqual(watch.seen("car"), [(7, "b"), (8, "a"), (8, "b")])

    def test_the_bounds_of_times(self):
        watch = watch_of(build("a", []), ("car", "a", LAST), ("car", "a", 0))
        self.assertEqual(watch.seen("car"), [(0, "a"), (LAST, "a")])
        self.assertIs(watch.saw("car", "a", 0), False)
        self.assertIs(watch.saw("car", "a", LAST), False)

    def test_cars_rising(self):
        names = ["z", "b10", "a", "b2", "ab", "b"]
        for turn in itertools.permutations(names):
            watch = watch_of(build("a", []), *[(car, "a", 1) for car in turn])
            self.assertEqual(watch.cars(), ["a", "ab", "b", "b10", "b2", "z"])

    def test_a_car_may_be_called_as_a_gate(self):
        watch = watch_of(build("a", []), ("a", "a", 1))
        self.assertEqual(kept(watch), [("a", [(1, "a")])])

    def test_gates_put_later_count(self):
        net = build("a", [])
        watch = watch_of(net, ("car", "a", 1))
        self.assertRaises(NoGate, watch.saw, "car", "b", 2)
        net.gate("b", True)
        self.assertIs(watch.saw("car", "b", 2), True)

    def test_many_sightings(self):
        watch = Watch(build("a b", []))
        for k in range(2000):
            self.assertIs(watch.saw("car", "ab"[k % 2], k * 7919 % 2003), True)
        times = [time for time, gate in watch.seen("car")]
        self.assertEqual(times, sorted(k * 7919 % 2003 for k in range(2000)))

    def test_a_watch_changes_no_net(self):
        net = build("a b*", [("a", "b", 1, 1)])
        ahead = snapshot(net)
        watch = watch_of(net, ("car", "a", 1), ("bus", "a", 1))
        watch.seen("car")
        watch.cars()
        watch.forget("car")
        self.assertEqual(snapshot(net), ahead)


class GatesGoneBlind(unittest.TestCase):

    def test_a_sighting_stays_when_its_gate_goes_blind(self):
        net = build("a b", [])
        watch = watch_of(net, ("car", "a", 5), ("car", "b", 6))
        net.blind("a")
        self.assertEqual(watch.seen("car"), [(5, "a"), (6, "b")])
        self.assertEqual(watch.cars(), ["car"])
        net.mend("a")
        self.assertEqual(watch.seen("car"), [(5, "a"), (6, "b")])

    def test_the_same_sighting_once_more_is_refused_while_the_gate_is_blind(self):
        net = build("a b", [])
        watch = watch_of(net, ("car", "a", 5))
        net.blind("a")
        self.assertRaises(Blind, watch.saw, "car", "a", 5)
        self.assertEqual(kept(watch), [("car", [(5, "a")])])
        net.mend("a")
        self.assertIs(watch.saw("car", "a", 5), False)

    def test_a_gate_mended_sees_again(self):
        net = build("a*", [])
        watch = Watch(net)
        self.assertRaises(Blind, watch.saw, "car", "a", 5)
        net.mend("a")
        self.assertIs(watch.saw("car", "a", 5), True)

    def test_it_is_forgotten_with_its_car(self):
        net = build("a", [])
        watch = watch_of(net, ("car", "a", 5))
        net.blind("a")
        watch.forget("car")
        self.assertEqual(watch.cars(), [])


class Forget(unittest.TestCase):

    def test_a_car_forgotten(self):
        watch = watch_of(build("a b", []), ("car", "a", 5), ("car", "b", 6), ("bus", "a", 5))
        self.assertIsNone(watch.forget("car"))
        self.assertEqual(kept(watch), [("bus", [(5, "a")])])
        self.assertRaises(NoCar, watch.seen, "car")
        self.assertRaises(NoCar, watch.forget, "car")

    def test_a_car_seen_anew(self):
        watch = watch_of(build("a b", []), ("car", "a", 5), ("car", "b", 6))
        watch.forget("car")
        self.assertIs(watch.saw("car", "b", 6), True)
        self.assertEqual(watch.seen("car"), [(6, "b")])
        self.assertIs(watch.saw("car", "b", 6), False)
        watch.forget("car")
        self.assertEqual(watch.cars(), [])


class Refusals(unittest.TestCase):

    def refused(self, refusal, watch, deed, *told):
        """The deed is refused by just that class; net, cars and sightings are as they were."""
        ahead = kept(watch), snapshot(watch.net)
        with self.assertRaises(TollError) as caught:
            deed(*told)
        self.assertIs(type(caught.exception), refusal)
        self.assertEqual((kept(watch), snapshot(watch.net)), ahead)

    def test_saw_no_name(self):
        watch = watch_of(build("a b*", []), ("car", "a", 1))
        for car in ("", "A", "1a", "ninesigns", "a b", "a_b", "car ", " car", "caR", "\u00e9"):
            with self.subTest(car=car):
                self.refused(NoName, watch, watch.saw, car, "a", 1)
        self.assertIs(watch.saw("eightsig", "a", 1), True)

    def test_saw_no_gate(self):
        watch = watch_of(build("a b*", []), ("car", "a", 1))
        for gate in ("c", "", "A", "car", "aa", "ninesigns"):
            with self.subTest(gate=gate):
                self.refused(NoGate, watch, watch.saw, "car", gate, 1)
                self.refused(NoGate, watch, watch.saw, "bus", gate, 1)

    def test_saw_blind(self):
        watch = watch_of(build("a b*", []), ("car", "a", 1))
        self.refused(Blind, watch, watch.saw, "car", "b", 1)
        self.refused(Blind, watch, watch.saw, "bus", "b", 1)
        watch.net.mend("b")
        self.assertIs(watch.saw("bus", "b", 1), True)

    def test_saw_no_time(self):
        watch = watch_of(build("a b*", []), ("car", "a", 1))
        for time in (-1, -LAST, LAST + 1, 10 ** 30):
            with self.subTest(time=time):
                self.refused(NoTime, watch, watch.saw, "car", "a", time)
                # A car that was refused alone is no car.
                self.refused(NoTime, watch, watch.saw, "bus", "a", time)
        self.assertEqual(watch.cars(), ["car"])
        self.assertIs(watch.saw("bus", "a", LAST), True)

    def test_saw_with_several_faults_tells_the_first(self):
        watch = watch_of(build("a b*", []), ("car", "a", 1))
        self.refused(NoName, watch, watch.saw, "Car", "c", 1)
        self.refused(NoName, watch, watch.saw, "Car", "b", 1)
        self.refused(NoName, watch, watch.saw, "Car", "a", -1)
        self.refused(NoName, watch, watch.saw, "", "c", LAST + 1)
        self.refused(NoGate, watch, watch.saw, "car", "c", -1)
        self.refused(NoGate, watch, watch.saw, "car", "", LAST + 1)
        self.refused(Blind, watch, watch.saw, "car", "b", -1)
        self.refused(Blind, watch, watch.saw, "car", "b", LAST + 1)

    def test_a_known_sighting_at_a_gate_gone_blind(self):
        watch = watch_of(build("a b*", []), ("car", "a", 1))
        watch.net.blind("a")
        self.refused(Blind, watch, watch.saw, "car", "a", 1)

    def test_no_car(self):
        watch = watch_of(build("a b*", []), ("car", "a", 1))
        for car in ("bus", "", "Car", "a", "ca", "cars"):
            with self.subTest(car=car):
                self.refused(NoCar, watch, watch.seen, car)
                self.refused(NoCar, watch, watch.forget, car)
        watch.forget("car")
        self.refused(NoCar, watch, watch.seen, "car")
        self.refused(NoCar, watch, watch.forget, "car")


if __name__ == "__main__":
    unittest.main()
