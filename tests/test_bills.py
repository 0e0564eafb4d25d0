"""Point 14: what the cars of a watch owe."""

import unittest

from tests.helpers import build, kept, snapshot, watch_of
from tollguess.bills import bill, total
from tollguess.nets import Net
from tollguess.watches import Watch


class Bills(unittest.TestCase):

    def setUp(self):
        self.net = build("a b* c", [("a", "b", 1, 3), ("b", "c", 1, 4), ("a", "c", 9, 2)])

    def test_no_cars(self):
        for net in (Net(), self.net):
            watch = Watch(net)
            self.assertEqual(bill(watch), [])
            self.assertEqual(total(watch), 0)
            self.assertIs(type(total(watch)), int)

    def test_cars_rising_with_and_without_a_way(self):
        watch = watch_of(
            self.net, ("z", "a", 0), ("z", "c", 9), ("m", "a", 0), ("m", "c", 8),
            ("b", "a", 5), ("b", "c", 6), ("b2", "c", 0), ("b10", "c", 0), ("b10", "a", 99))
        self.assertEqual(
            bill(watch), [("b", None), ("b10", None), ("b2", 0), ("m", 7), ("z", 2)])
        self.assertEqual(total(watch), 9)

    def test_the_kinds_of_what_is_told(self):
        watch = watch_of(self.net, ("car", "a", 0))
        self.assertIs(type(bill(watch)), list)
        self.assertIs(type(bill(watch)[0]), tuple)
        self.assertIs(type(bill(watch)[0][1]), int)

    def test_a_toll_of_0_is_not_none(self):
        watch = watch_of(self.net, ("car", "a", 0))
        self.assertEqual(bill(watch), [("car", 0)])
        self.net.road("a", "c", 1, 0)
        watch.saw("car", "c", 1)
        self.assertEqual(bill(watch), [("car", 0)])
        self.assertEqual(total(watch), 0)

    def test_cars_without_a_way_count_nothing(self):
        watch = watch_of(self.net, ("car", "a", 0), ("car", "c", 1), ("bus", "c", 0), ("bus", "a", 9))
        self.assertEqual(bill(watch), [("bus", None), ("car", None)])
        self.assertEqual(total(watch), 0)
        self.assertIs(type(total(watch)), int)
        watch.saw("van", "a", 0)
        watch.saw("van", "c", 2)
        self.assertEqual(bill(watch), [("bus", None), ("car", None), ("van", 7)])
        self.assertEqual(total(watch), 7)

    def test_sightings_handed_in_in_any_turn(self):
        watch = watch_of(self.net, ("car", "c", 19), ("car", "a", 10))
        self.assertEqual(bill(watch), [("car", 2)])
        watch.saw("bus", "c", 18)
        watch.saw("bus", "a", 10)
        self.assertEqual(bill(watch), [("bus", 7), ("car", 2)])
        self.assertEqual(total(watch), 9)

    def test_a_sighting_more_and_a_car_forgotten(self):
        watch = watch_of(self.net, ("car", "a", 0), ("car", "c", 9), ("bus", "a", 0), ("bus", "c", 2))
        self.assertEqual((bill(watch), total(watch)), ([("bus", 7), ("car", 2)], 9))
        watch.saw("bus", "a", 50)
        self.assertEqual((bill(watch), total(watch)), ([("bus", None), ("car", 2)], 2))
        watch.forget("bus")
        self.assertEqual((bill(watch), total(watch)), ([("car", 2)], 2))
        watch.forget("car")
        self.assertEqual((bill(watch), total(watch)), ([], 0))

    def test_the_net_is_looked_at_as_it_is_then(self):
        watch = watch_of(self.net, ("car", "a", 0), ("car", "c", 9), ("bus", "a", 0), ("bus", "c", 2))

        def told():
            return bill(watch) + [total(watch)]

        first = told()
        self.assertEqual(first, [("bus", 7), ("car", 2), 9])
        self.net.close(2)
        self.assertEqual(told(), [("bus", 7), ("car", 7), 14])
        self.net.mend("b")
        self.assertEqual(told(), [("bus", None), ("car", None), 0])
        self.net.reopen(2)
        self.assertEqual(told(), [("bus", None), ("car", 2), 2])
        self.assertEqual(self.net.road("a", "c", 2, 1), 3)
        self.assertEqual(told(), [("bus", 1), ("car", 1), 2])
        self.net.close(3)
        self.net.blind("b")
        self.assertEqual(told(), first)
        # The gates of sightings may go blind behind them.
        self.net.blind("a")
        self.net.blind("c")
        self.assertEqual(told(), first)

    def test_asking_changes_nothing(self):
        watch = watch_of(self.net, ("car", "a", 0), ("car", "c", 9), ("bus", "c", 0), ("bus", "a", 2))
        ahead = kept(watch), snapshot(self.net)
        first = bill(watch), total(watch)
        self.assertEqual((bill(watch), total(watch)), first)
        self.assertEqual((kept(watch), snapshot(self.net)), ahead)


if __name__ == "__main__":
    unittest.main()
