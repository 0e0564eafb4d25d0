"""Nets and watches for the tests, and slow, plain ways to tell what drives and ways there are."""

import random

from tollguess.nets import Net
from tollguess.watches import Watch

MILLION = 1000000
LAST = 1000000000


def build(gates, roads):
    """A net of gates in a text (a star behind a blind one) and roads in tuples."""
    net = Net()
    for word in gates.split():
        net.gate(word.rstrip("*"), not word.endswith("*"))
    for row in roads:
        net.road(*row)
    return net


def full_of_gates():
    """A net with all its 60 gates: g0 to g59."""
    return build(" ".join(f"g{k}" for k in range(60)), [])


def full_of_roads():
    """A net with the gates a and b, and all its 200 roads from a to b."""
    return build("a b", [("a", "b", 1, 0)] * 200)


def snapshot(net):
    """All that a net tells of itself."""
    gates = net.gates()
    return gates, net.roads(), [net.leaving(name) for name, sees in gates]


def watch_of(net, *rows):
    """A watch of a net, with sightings (car, gate, time) that are all new."""
    watch = Watch(net)
    for row in rows:
        if not watch.saw(*row):
            raise AssertionError(f"{row} is known")
    return watch


def kept(watch):
    """All sightings that a watch tells: pairs (car, sightings)."""
    return [(car, watch.seen(car)) for car in watch.cars()]


def drawn_net(seed, gates, roads, minutes, toll):
    """A net drawn by a seed: some gates blind, some roads closed."""
    draw = random.Random(seed)
    names = [f"g{k}" for k in range(gates)]
    # The turn of the gates is not that of their names.
    draw.shuffle(names)
    net = Net()
    seeing = draw.choice((0.0, 0.2, 0.5))
    for name in names:
        net.gate(name, draw.random() < seeing)
    for _ in range(roads):
        one, other = draw.sample(names, 2)
        number = net.road(one, other, draw.randint(1, minutes), draw.randint(0, toll))
        if draw.random() < 0.1:
            net.close(number)
    return net


def all_drives(net, gate, limit):
    """All drives of one road or more in at most limit minutes: (end, minutes, toll, roads)."""
    sees = dict(net.gates())
    roads = net.roads()
    found = []
    begun = [(gate, 0, 0, [])]
    while begun:
        name, minutes, toll, numbers = begun.pop()
        if numbers and sees[name]:
            continue
        for number, (one, other, more, cost, is_open) in enumerate(roads):
            if is_open and one == name and minutes + more <= limit:
                drive = (other, minutes + more, toll + cost, numbers + [number])
                found.append(drive)
                begun.append(drive)
    return found


def best_of(drives):
    """Of drives (end, minutes, toll, ..) the (end, minutes, toll) that no other beats."""
    points = {tuple(drive[:3]) for drive in drives}
    best = set()
    for end, minutes, toll in points:
        beaten = any(
            other[0] == end and other[1] <= minutes and other[2] <= toll
            for other in points if other != (end, minutes, toll))
        if not beaten:
            best.add((end, minutes, toll))
    return best


def best_by_minutes(net, gate, limit):
    """What best_of tells of all drives, worked out minute by minute (for larger nets)."""
    sees = dict(net.gates())
    tolls = [{} for _ in range(limit + 1)]
    for now in range(1, limit + 1):
        for one, other, minutes, toll, is_open in net.roads():
            if not is_open or minutes > now:
                continue
            costs = []
            if minutes == now and one == gate:
                costs.append(toll)
            if not sees[one] and one in tolls[now - minutes]:
                costs.append(tolls[now - minutes][one] + toll)
            for cost in costs:
                tolls[now][other] = min(cost, tolls[now].get(other, cost))
    best = set()
    lowest = {}
    for now in range(1, limit + 1):
        for name, toll in tolls[now].items():
            if name not in lowest or toll < lowest[name]:
                lowest[name] = toll
                best.add((name, now, toll))
    return best


def drive_faults(net, gate, end, minutes, toll, numbers):
    """What keeps the roads from being a drive from gate to end of these minutes and toll."""
    sees = dict(net.gates())
    roads = net.roads()
    faults = []
    at = gate
    spent = cost = 0
    for place, number in enumerate(numbers):
        one, other, more, price, is_open = roads[number]
        if one != at:
            faults.append(f"road {number} does not lead from {at}")
        if place > 0 and sees[at]:
            faults.append(f"{at} sees")
        if not is_open:
            faults.append(f"road {number} is closed")
        at = other
        spent += more
        cost += price
    if (at, spent, cost) != (end, minutes, toll):
        faults.append(f"{(at, spent, cost)} is not {(end, minutes, toll)}")
    return faults


def all_ways(net, seen):
    """All ways that fit the sightings: pairs (toll, roads)."""
    ways = [(0, [])]
    for (time, gate), (later, other) in zip(seen, seen[1:]):
        drives = [drive for drive in all_drives(net, gate, later - time) if drive[0] == other]
        ways = [
            (toll + drive[2], roads + drive[3]) for toll, roads in ways for drive in drives]
    return ways


def first_apart(net, seen):
    """The place of the first sighting that no drive joins with the next one, or None."""
    for place in range(len(seen) - 1):
        if not all_ways(net, seen[place:place + 2]):
            return place
    return None


def passed_lists(net, seen, roads):
    """The lists of gates passed that roads make, one for each way to part them into drives."""
    time, gate = seen[0]
    if len(seen) == 1:
        return [] if roads else [[(gate, time)]]
    lists = []
    for cut in range(1, len(roads) + 1):
        ahead = leg_passed(net, seen[0], seen[1], roads[:cut])
        if ahead is not None:
            lists += [ahead + rest for rest in passed_lists(net, seen[1:], roads[cut:])]
    return lists


def leg_passed(net, sighting, following, numbers):
    """The gates passed by a drive from one sighting to just ahead of the next, or None."""
    (time, gate), (later, other) = sighting, following
    rows = [net.roads()[number] for number in numbers]
    minutes = sum(row[2] for row in rows)
    toll = sum(row[3] for row in rows)
    if minutes > later - time or drive_faults(net, gate, other, minutes, toll, numbers):
        return None
    passed = [(gate, time)]
    for row in rows[:-1]:
        passed.append((row[1], passed[-1][1] + row[2]))
    return passed


def drawn_sightings(net, seed, many, longest):
    """Sightings drawn by a seed: at any of the gates, rising by time from 0 or later."""
    draw = random.Random(seed)
    names = [name for name, sees in net.gates()]
    time = draw.randint(0, 5)
    seen = []
    for _ in range(many):
        seen.append((time, draw.choice(names)))
        time += draw.randint(0, longest)
    return seen
