"""Names, and the net of gates and roads that cars drive upon."""

from tollguess.errors import Already, FullNet, NoGate, NoName, NoNumber, NoRoad, SameGate

SMALL_SIGNS = "abcdefghijklmnopqrstuvwxyz"
NAME_SIGNS = "abcdefghijklmnopqrstuvwxyz0123456789"
MOST_SIGNS = 8
MOST_GATES = 60
MOST_ROADS = 200
MOST_MINUTES = 1000000
MOST_TOLL = 1000000


def is_name(text):
    """Tell whether a text is a name: a small sign, up to seven small signs or figures."""
    if text == "" or len(text) > MOST_SIGNS:
        return False
    if text[0] not in SMALL_SIGNS:
        return False
    return all([sign in NAME_SIGNS for sign in text])


class Net:
    """Gates that see or are blind, and roads between them that are open or closed."""

    def __init__(self):
        self._gates = {}
        self._roads = []

    def gate(self, name, sees):
        """Put a gate."""
        if not is_name(name):
            raise NoName(f"{name!r} is no name")
        if name in self._gates:
            raise SameGate(f"there is a gate {name}")
        if len(self._gates) >= MOST_GATES:
            raise FullNet(f"a net has at most {MOST_GATES} gates")
        self._gates[name] = sees

    def road(self, one, other, minutes, toll):
        """Put an open road, and tell its number."""
        self.need_gate(one)
        self.need_gate(other)
        if one == other:
            raise SameGate("a road leads to another gate")
        if not 1 <= minutes <= MOST_MINUTES:
            raise NoNumber(f"minutes are from 1 to {MOST_MINUTES}")
        if not 0 <= toll <= MOST_TOLL:
            raise NoNumber(f"a toll is from 0 to {MOST_TOLL}")
        if len(self._roads) >= MOST_ROADS:
            raise FullNet(f"a net has at most {MOST_ROADS} roads")
        self._roads.append((one, other, minutes, toll, True))
        return len(self._roads) - 1

    def blind(self, name):
        """Let a gate be blind from now on."""
        self._turn_gate(name, False)

    def mend(self, name):
        """Let a gate see from now on."""
        self._turn_gate(name, True)

    def close(self, number):
        """Let a road be closed from now on."""
        self._turn_road(number, False)

    def reopen(self, number):
        """Let a road be open from now on."""
        self._turn_road(number, True)

    def gates(self):
        """Tell the pairs (name, sees), in the turn in which the gates came."""
        return list(self._gates.items())

    def roads(self):
        """Tell the tuples (one, other, minutes, toll, is_open), by the roads' numbers."""
        return list(self._roads)

    def leaving(self, name):
        """Tell the numbers of the open roads that lead from a gate, rising."""
        self.need_gate(name)
        numbers = []
        for number, (one, other, minutes, toll, is_open) in enumerate(self._roads):
            if one == name and is_open:
                numbers.append(number)
        return numbers

    def need_gate(self, name):
        """Refuse a name that no gate has."""
        if name not in self._gates:
            raise NoGate(f"there is no gate {name!r}")

    def _turn_gate(self, name, sees):
        self.need_gate(name)
        if self._gates[name] == sees:
            raise Already(f"the gate {name} is so already")
        self._gates[name] = sees

    def _turn_road(self, number, is_open):
        # A list counts places below nought from its end, a net has none there.
        if not 0 <= number < len(self._roads):
            raise NoRoad("no road has that number")
        one, other, minutes, toll, was_open = self._roads[number]
        if was_open == is_open:
            raise Already("the road is so already")
        self._roads[number] = (one, other, minutes, toll, is_open)
