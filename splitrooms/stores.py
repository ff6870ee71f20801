"""Stores: things kept in rooms, which are found by a board."""

from splitrooms.boards import can_halve, doubled, halved, joined_at, parted_at
from splitrooms.errors import BadBound, NoThing
from splitrooms.mixing import SIGNS, mixed
from splitrooms.rooms import joined, parted, value_in, with_thing, without_thing

LEAST_BOUND = 1
GREATEST_BOUND = 64


def check_bound(bound):
    """Refuses with BadBound what is no whole number from 1 to 64."""
    # As with names, the exact kind is asked for, and what was handed in is not shown.
    if type(bound) is not int or not LEAST_BOUND <= bound <= GREATEST_BOUND:
        raise BadBound("not a whole number from 1 to 64")


class Store:
    """Things in rooms, none of which holds more things than the bound."""

    def __init__(self, bound):
        check_bound(bound)
        self.bound = bound
        # The things of each room, by its bits. A list of things is replaced, never changed.
        self._rooms = {"": []}
        self._board = [""]
        self._depth = 0

    def put(self, name, value):
        """Gives the name a value and tells the one that it had, None if it had none."""
        bits = self._bits_of(name)
        things = self._rooms[bits]
        before = value_in(things, name)
        self._rooms[bits] = with_thing(things, name, value)
        self._part_for(name)
        return before

    def take(self, name):
        """Takes the thing of the name away and tells its value."""
        bits = self._bits_of(name)
        things = self._rooms[bits]
        value = value_in(things, name)
        if value is None:
            raise NoThing("the name has no value")
        self._rooms[bits] = without_thing(things, name)
        self._join_from(bits)
        self._halve_board()
        return value

    def find(self, name):
        """The value of the name, None if it has none."""
        return value_in(self._rooms[self._bits_of(name)], name)

    def look(self, name):
        """The place of the name, the bits that stand there, and how many things are in that room."""
        place = self._place_of(name)
        bits = self._board[place]
        return place, bits, len(self._rooms[bits])

    def size(self):
        """How many things there are."""
        return sum([len(things) for things in self._rooms.values()])

    def depth(self):
        """The greatest number of bits of a room."""
        return self._depth

    def board(self):
        """The bits that stand at each place."""
        return list(self._board)

    def rooms(self):
        """All rooms, in the order of their bits as texts."""
        return [(bits, list(self._rooms[bits])) for bits in sorted(self._rooms)]

    def things(self):
        """All things, names rising."""
        held = [thing for things in self._rooms.values() for thing in things]
        return sorted(held, key=lambda thing: thing[0])

    def _place_of(self, name):
        # The first signs, as many as the depth, read by twos: the mixed name without its last signs.
        return mixed(name) >> (SIGNS - self._depth)

    def _bits_of(self, name):
        return self._board[self._place_of(name)]

    def _part_for(self, name):
        """Parts the room of the name until it is within the bound."""
        # Only that room can have too many things: one with no more than the bound got one more, and
        # where it is parted and one half still has too many, all of them are there, the new one too.
        bits = self._bits_of(name)
        while len(self._rooms[bits]) > self.bound:
            self._part(bits)
            bits = self._bits_of(name)

    def _part(self, bits):
        if len(bits) == self._depth:
            self._board = doubled(self._board)
            self._depth += 1
        self._board = parted_at(self._board, bits)
        halves = parted((bits, self._rooms[bits]))
        del self._rooms[bits]
        for half, things in halves:
            self._rooms[half] = things

    def _join_from(self, bits):
        """Joins the room of these bits with the one beside it, and so on, as long as the bound allows."""
        # No other two rooms can be joined, since only this one has fewer things than before.
        while bits != "" and self._can_join(bits[:-1]):
            bits = bits[:-1]
            self._join(bits)

    def _can_join(self, bits):
        low, high = bits + "0", bits + "1"
        # What was parted further is no room, and has more things than the bound.
        if low not in self._rooms or high not in self._rooms:
            return False
        return len(self._rooms[low]) + len(self._rooms[high]) <= self.bound

    def _join(self, bits):
        low, high = bits + "0", bits + "1"
        _, things = joined((low, self._rooms[low]), (high, self._rooms[high]))
        del self._rooms[low]
        del self._rooms[high]
        self._rooms[bits] = things
        self._board = joined_at(self._board, bits)

    def _halve_board(self):
        while can_halve(self._board):
            self._board = halved(self._board)
            self._depth -= 1
