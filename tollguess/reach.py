"""What the drives of a gate reach, and the roads that they take."""

from heapq import heappop, heappush

from tollguess.errors import NoNumber


def reached(net, gate, limit):
    """Tell the rows (name, minutes, toll, road, back) of the drives worth taking."""
    return rows_until(net, gate, limit, None)


def rows_until(net, gate, limit, goal):
    """Tell the rows of reached up to the first drive that ends at goal (None: all)."""
    net.need_gate(gate)
    if limit < 0:
        raise NoNumber("a limit is a number from 0 on")
    gates = net.gates()
    ways = _ways_by_gate(net)
    rows = [(gate, 0, 0, -1, -1)]
    fewest = {}
    queue = []
    _go_on(queue, rows, ways[gate], limit)
    while queue:
        toll, minutes, turn, road, back = heappop(queue)
        name, sees = gates[turn]
        # Each road takes minutes, so a drive that goes on is queued behind the one
        # it goes on from: what came out ahead costs no more than what comes now.
        if name in fewest and fewest[name] <= minutes:
            continue
        fewest[name] = minutes
        rows.append((name, minutes, toll, road, back))
        if name == goal:
            break
        if not sees:
            _go_on(queue, rows, ways[name], limit)
    return rows


def least(rows, name):
    """Tell the place of the row of a name with the least toll, or None."""
    best = None
    for place in range(1, len(rows)):
        if rows[place][0] != name:
            continue
        if best is None or rows[place][2] < rows[best][2]:
            best = place
    return best


def roads_to(rows, place):
    """Tell the numbers of the roads of a row's drive, in order."""
    roads = []
    while place > 0:
        name, minutes, toll, road, back = rows[place]
        roads.append(road)
        place = back
    roads.reverse()
    return roads


def _ways_by_gate(net):
    """Tell for each gate its open roads: (road, the turn of the gate ahead, minutes, toll)."""
    turns = {}
    ways = {}
    for turn, (name, sees) in enumerate(net.gates()):
        turns[name] = turn
        ways[name] = []
    for road, (one, other, minutes, toll, is_open) in enumerate(net.roads()):
        if is_open:
            ways[one].append((road, turns[other], minutes, toll))
    return ways


def _go_on(queue, rows, ways, limit):
    """Queue the drives that go on from the last row by one of the ways."""
    back = len(rows) - 1
    name, minutes, toll, last, ahead = rows[back]
    for road, turn, more_minutes, more_toll in ways:
        if minutes + more_minutes <= limit:
            heappush(queue, (toll + more_toll, minutes + more_minutes, turn, road, back))
