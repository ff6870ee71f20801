"""Rooms and their things.

A room is a pair of its bits and its things; things are a list of pairs of a name and a value, names rising.
"""

from splitrooms.mixing import signs


def with_thing(things, name, value):
    """The things with this one in its place, instead of the one that has the name already."""
    ahead = [thing for thing in things if thing[0] < name]
    behind = [thing for thing in things if thing[0] > name]
    return [*ahead, (name, value), *behind]


def without_thing(things, name):
    """The things without the one of this name; all of them if there is none."""
    return [thing for thing in things if thing[0] != name]


def value_in(things, name):
    """The value that the name has among the things, or None."""
    for held, value in things:
        if held == name:
            return value
    return None


def next_sign(bits, name):
    """The sign of the name that comes behind as many signs as the bits have."""
    # A slice and no index: behind eight bits no sign is left, which is no error.
    at = len(bits)
    return signs(name)[at:at + 1]


def parted(room):
    """The two rooms into which the room is parted, the one with the 0 first."""
    bits, things = room
    zeros = [thing for thing in things if next_sign(bits, thing[0]) != "1"]
    ones = [thing for thing in things if next_sign(bits, thing[0]) == "1"]
    return (bits + "0", zeros), (bits + "1", ones)


def joined(one, other):
    """The room into which two rooms are joined whose bits differ in their last sign alone."""
    bits, things = one
    # Names of the two may lie one between the other, so one list behind the other is not yet in order.
    both = sorted([*things, *other[1]], key=lambda thing: thing[0])
    return bits[:-1], both
