"""The cheapest drive from a gate to a gate."""

from tollguess.reach import least, roads_to, rows_until


def leg(net, one, other, limit):
    """Tell (toll, minutes, roads) of the cheapest drive in at most limit minutes, or None."""
    net.need_gate(one)
    net.need_gate(other)
    rows = rows_until(net, one, limit, other)
    place = least(rows, other)
    if place is None:
        return None
    name, minutes, toll, road, back = rows[place]
    return (toll, minutes, roads_to(rows, place))
