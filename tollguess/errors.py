"""The refusals: each stands below TollError, none below another one."""


class TollError(ValueError):
    """What all refusals have in common."""


class NoName(TollError):
    """A text is no name."""


class SameGate(TollError):
    """There is a gate of that name, or both ends of a road are one gate."""


class FullNet(TollError):
    """The net has no place for another gate, or for another road."""


class NoGate(TollError):
    """No gate has that name."""


class NoNumber(TollError):
    """Minutes, a toll or a limit are out of bounds."""


class NoRoad(TollError):
    """No road has that number."""


class Already(TollError):
    """The gate or the road is as it was asked to become."""


class NoTime(TollError):
    """A time is out of bounds, or below the one ahead."""


class Blind(TollError):
    """The gate is blind, so that it saw no car."""


class NoCar(TollError):
    """No sighting of that car is kept."""


class NoSight(TollError):
    """There are no sightings to guess from."""
