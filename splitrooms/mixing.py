"""Mixed names and their signs."""

from splitrooms.errors import BadName

SIGNS = 8
NAMES = 256
FACTOR = 171
SHIFT = 37
# 171 times 3 is 513, of which 1 is left when divided by 256: so 3 undoes the factor.
UNDOING_FACTOR = 3


def check_name(name):
    """Refuses with BadName what is no whole number from 0 to 255."""
    # The exact kind is asked for: a truth value counts as an int, and other kinds may pose as one.
    # The message does not show what was handed in, since showing an odd kind may fail by itself.
    if type(name) is not int or not 0 <= name < NAMES:
        raise BadName("not a whole number from 0 to 255")


def mixed(name):
    """The mixed name of a name."""
    check_name(name)
    return (FACTOR * name + SHIFT) % NAMES


def unmixed(number):
    """The name whose mixed name the number is."""
    # Mixed names have the range of names, so the same check serves for both.
    check_name(number)
    return (number - SHIFT) * UNDOING_FACTOR % NAMES


def signs(name):
    """The mixed name by twos, as a text of eight signs, the sign worth most first."""
    by_twos = f"{mixed(name):b}"
    return by_twos.zfill(SIGNS)
