"""What a store must tell, reckoned out of its bound and its things by the words of points 2 to 12.

Nothing here is taken from the program, so that the tests have something to hold against it.
"""

from decimal import Decimal
from fractions import Fraction

SIXTY = 10 ** 60 - 1
VALUES = (0, 1, -1, 5, -70, 10 ** 59, -(10 ** 59), SIXTY, -SIXTY)


class Posing:
    """Poses as a whole number, but cannot be reckoned with."""

    @property
    def __class__(self):
        return int


class Hostile:
    """Fails at whatever is asked of it."""

    def _fail(self, *_):
        raise RuntimeError("asked")

    __eq__ = __lt__ = __le__ = __gt__ = __ge__ = _fail
    __bool__ = __int__ = __index__ = __repr__ = __str__ = __len__ = _fail
    __hash__ = None


class Index:
    """No whole number, but one that Python takes for an index."""

    def __index__(self):
        return 7


# What is neither a name nor a bound, whatever the range.
NO_NUMBERS = (
    True, False, "", "7", "name", None, [], [7], (), (7,),
    7.0, 0.5, float("nan"), float("inf"), 7 + 0j, Fraction(7), Decimal(7),
    b"7", bytearray(b"7"), {}, {7: 7}, {7}, frozenset([7]), range(7),
    int, len, object(), Posing(), Hostile(), Index(),
)
NO_NAMES = (-1, 256, 10 ** 20, -(10 ** 20), 10 ** 5000) + NO_NUMBERS
NO_BOUNDS = (0, 65, -3, 256, 10 ** 20, -(10 ** 20), 10 ** 5000) + NO_NUMBERS


def own_signs(name):
    return format((171 * name + 37) % 256, "08b")


def all_bits():
    """All texts of 0 to 8 signs, in their order as texts."""
    return sorted([""] + [format(number, f"0{many}b") for many in range(1, 9) for number in range(2 ** many)])


def place_of(depth, name):
    place = 0
    for sign in own_signs(name)[:depth]:
        place = 2 * place + (1 if sign == "1" else 0)
    return place


# Worked out once, since many tests ask for them many times.
ALL_BITS = all_bits()
ALL_SIGNS = [own_signs(name) for name in range(256)]
NAMES_UNDER = {bits: [name for name in range(256) if ALL_SIGNS[name].startswith(bits)] for bits in ALL_BITS}
NAMES_AT = [
    [[name for name in range(256) if place_of(depth, name) == place] for place in range(2 ** depth)]
    for depth in range(9)
]


def rooms_of(bound, things):
    """The rooms of point 6, each text of bits asked for itself; things are a dict."""
    under = {bits: [(name, things[name]) for name in NAMES_UNDER[bits] if name in things] for bits in ALL_BITS}
    if len(things) <= bound:
        return [("", under[""])]
    return [
        (bits, under[bits]) for bits in ALL_BITS
        if bits and len(under[bits]) <= bound < len(under[bits[:-1]])
    ]


def depth_of(rooms):
    return max(len(bits) for bits, _ in rooms)


def board_of(rooms):
    """The board of point 7: at each place the bits that begin the signs of every name of that place."""
    board = []
    for names in NAMES_AT[depth_of(rooms)]:
        leading = [bits for bits, _ in rooms if all(ALL_SIGNS[name].startswith(bits) for name in names)]
        assert len(leading) == 1, leading
        board += leading
    return board


def text_of(bound, things):
    """The text of point 12."""
    text = "bound " + str(bound)
    for bits, held in rooms_of(bound, things):
        text += "\n" + bits + ":"
        for name, value in held:
            text += " " + str(name) + "=" + str(value)
    return text


def spread(many, start=0, step=77):
    """As many names, all different, in an order that leaps about (the step is odd)."""
    return [(start + step * at) % 256 for at in range(many)]


def valued(names):
    return {name: VALUES[name % len(VALUES)] for name in names}


def numbers(seed):
    """A row of numbers without end that is the same at every run."""
    while True:
        seed = (seed * 6364136223846793005 + 1442695040888963407) % 2 ** 64
        yield seed >> 33
