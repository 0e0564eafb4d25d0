"""What the gates of a net saw of cars, and when."""

from tollguess.errors import Blind, NoCar, NoName, NoTime
from tollguess.nets import is_name

LAST_TIME = 1000000000


class Watch:
    """The sightings of cars at the gates of a net."""

    def __init__(self, net):
        # Kept itself, no copy: gates and roads count as they are when asked.
        self.net = net
        self._sightings = {}

    def saw(self, car, gate, time):
        """Keep a sighting; tell whether it is new."""
        if not is_name(car):
            raise NoName(f"{car!r} is no name")
        self.net.need_gate(gate)
        sees = dict(self.net.gates())
        if not sees[gate]:
            raise Blind(f"the gate {gate} is blind")
        if not 0 <= time <= LAST_TIME:
            raise NoTime(f"times are from 0 to {LAST_TIME}")
        kept = self._sightings.setdefault(car, {})
        if (time, gate) in kept:
            return False
        kept[(time, gate)] = True
        return True

    def seen(self, car):
        """Tell the pairs (time, gate) of a car, rising."""
        self._need_car(car)
        return sorted(self._sightings[car])

    def cars(self):
        """Tell the cars that have sightings, rising."""
        return sorted(self._sightings)

    def forget(self, car):
        """Forget all sightings of a car."""
        self._need_car(car)
        del self._sightings[car]

    def _need_car(self, car):
        if car not in self._sightings:
            raise NoCar(f"no sighting of {car!r} is kept")
