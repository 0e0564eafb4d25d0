"""The cheapest way that fits the sightings of a car."""

from tollguess.errors import NoSight, NoTime
from tollguess.legs import leg


def guess(net, seen):
    """Tell ("way", toll, roads, passed) of pairs (time, gate), or ("none", k)."""
    _need_sightings(net, seen)
    time, gate = seen[0]
    toll = 0
    roads = []
    passed = [(gate, time)]
    # What fits between two sightings hangs on no other ones, so the cheapest
    # drives of all legs make the cheapest way.
    for place in range(1, len(seen)):
        later, other = seen[place]
        found = leg(net, gate, other, later - time)
        if found is None:
            return ("none", place - 1)
        cost, minutes, numbers = found
        toll += cost
        roads.extend(numbers)
        passed.extend(_passed_between(net, numbers, time))
        passed.append((other, later))
        time = later
        gate = other
    return ("way", toll, roads, passed)


def _need_sightings(net, seen):
    """Refuse no sightings, gates that are not there, and times that do not rise from 0."""
    if len(seen) == 0:
        raise NoSight("there are no sightings to guess from")
    ahead = 0
    for time, gate in seen:
        net.need_gate(gate)
        if time < ahead:
            raise NoTime("a time is below nought, or below the one ahead")
        ahead = time


def _passed_between(net, numbers, time):
    """Tell the pairs (gate, time) behind each road of a drive but its last one."""
    rows = net.roads()
    passed = []
    for number in numbers[:-1]:
        one, other, minutes, toll, is_open = rows[number]
        time += minutes
        passed.append((other, time))
    return passed
