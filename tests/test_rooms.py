"""Points 4 and 5: the things of a room, rooms parted and joined."""

import unittest
from itertools import product

from reckoning import SIXTY, VALUES, own_signs
from splitrooms.rooms import joined, parted, value_in, with_thing, without_thing


def valued(names):
    return [(name, VALUES[name % len(VALUES)]) for name in names]


def names_under(bits):
    return [name for name in range(256) if own_signs(name).startswith(bits)]


def all_bits(least, most):
    return ["".join(row) for many in range(least, most + 1) for row in product("01", repeat=many)]


LISTS = (
    [],
    valued([0]),
    valued([255]),
    valued([9, 10, 200]),
    valued(range(0, 256, 2)),
    valued(range(1, 256, 3)),
    valued([at * 5 // 4 for at in range(200)]),
)


class ThingsCase(unittest.TestCase):
    def assert_things(self, told, expected):
        self.assertEqual(told, expected)
        self.assertIs(type(told), list)
        for thing in told:
            self.assertIs(type(thing), tuple)

    def assert_own(self, told, handed_in):
        """The list told is another one than the list handed in, either way."""
        before, told_before = list(handed_in), list(told)
        told.append((1000, 1))
        told[0] = (1001, 1)
        self.assertEqual(handed_in, before)
        told.clear()
        self.assertEqual(handed_in, before)
        told.extend(told_before)
        handed_in.append((1000, 1))
        self.assertEqual(told, told_before)
        handed_in.pop()


class WithThingTest(ThingsCase):
    def test_at_no_things(self):
        self.assert_things(with_thing([], 7, -5), [(7, -5)])

    def test_ahead_of_all(self):
        self.assert_things(with_thing([(3, 1), (9, 2)], 0, 5), [(0, 5), (3, 1), (9, 2)])

    def test_between_two(self):
        self.assert_things(with_thing([(3, 1), (9, 2)], 4, 5), [(3, 1), (4, 5), (9, 2)])

    def test_behind_all(self):
        self.assert_things(with_thing([(3, 1), (9, 2)], 255, 5), [(3, 1), (9, 2), (255, 5)])

    def test_where_the_name_is_there_the_new_value_stands(self):
        things = [(3, 1), (9, 2), (12, 3)]
        self.assert_things(with_thing(things, 3, 5), [(3, 5), (9, 2), (12, 3)])
        self.assert_things(with_thing(things, 9, 5), [(3, 1), (9, 5), (12, 3)])
        self.assert_things(with_thing(things, 12, 5), [(3, 1), (9, 2), (12, 5)])
        self.assert_things(with_thing(things, 9, 2), things)

    def test_values_below_nought_and_of_sixty_figures(self):
        for value in VALUES:
            self.assert_things(with_thing([(3, 1)], 3, value), [(3, value)])
            self.assert_things(with_thing([(3, 1)], 2, value), [(2, value), (3, 1)])

    def test_each_name_at_each_list(self):
        for things in LISTS:
            for name in range(256):
                handed_in = list(things)
                told = with_thing(handed_in, name, 77)
                self.assert_things(told, sorted({**dict(things), name: 77}.items()))
                self.assertEqual(handed_in, things)
                self.assert_own(told, handed_in)


class WithoutThingTest(ThingsCase):
    def test_where_the_name_is_there(self):
        things = [(3, 1), (9, 2), (12, 3)]
        self.assert_things(without_thing(things, 3), [(9, 2), (12, 3)])
        self.assert_things(without_thing(things, 9), [(3, 1), (12, 3)])
        self.assert_things(without_thing(things, 12), [(3, 1), (9, 2)])
        self.assert_things(without_thing([(3, 1)], 3), [])

    def test_where_the_name_is_not_there(self):
        self.assert_things(without_thing([], 3), [])
        self.assert_things(without_thing([(3, 1), (9, 2)], 4), [(3, 1), (9, 2)])

    def test_a_value_is_not_taken_for_a_name(self):
        self.assert_things(without_thing([(3, 9), (9, 3), (12, 9)], 9), [(3, 9), (12, 9)])

    def test_each_name_at_each_list(self):
        for things in LISTS:
            for name in range(256):
                handed_in = list(things)
                told = without_thing(handed_in, name)
                expected = dict(things)
                expected.pop(name, None)
                self.assert_things(told, sorted(expected.items()))
                self.assertEqual(handed_in, things)
                if told:
                    self.assert_own(told, handed_in)
                told.append((1000, 1))
                self.assertEqual(handed_in, things)


class ValueInTest(ThingsCase):
    def test_where_the_name_is_there(self):
        self.assertEqual(value_in([(3, 9), (9, 3)], 9), 3)
        self.assertEqual(value_in([(3, 9), (9, 0)], 9), 0)

    def test_where_the_name_is_not_there(self):
        self.assertIsNone(value_in([], 3))
        self.assertIsNone(value_in([(3, 9)], 9))

    def test_each_name_at_each_list(self):
        for things in LISTS:
            handed_in = list(things)
            for name in range(256):
                self.assertEqual(value_in(handed_in, name), dict(things).get(name))
            self.assertEqual(handed_in, things)


class RoomsCase(ThingsCase):
    def assert_room(self, told, bits, things):
        self.assertIs(type(told), tuple)
        self.assertEqual(len(told), 2)
        self.assertEqual(told[0], bits)
        self.assertIs(type(told[0]), str)
        self.assert_things(told[1], things)

    def assert_not_touched(self, told, handed_in):
        """Changing the list that was told, the room that was handed in stays."""
        bits, things = handed_in[0], list(handed_in[1])
        told.insert(0, (1000, 1))
        self.assertEqual(handed_in, (bits, things))
        told.clear()
        self.assertEqual(handed_in, (bits, things))


class PartedTest(RoomsCase):
    def assert_parted(self, bits, things):
        handed_in = (bits, list(things))
        told = parted(handed_in)
        self.assertIs(type(told), tuple)
        self.assertEqual(len(told), 2)
        for room, sign in zip(told, "01"):
            going = [thing for thing in things if own_signs(thing[0])[len(bits)] == sign]
            self.assert_room(room, bits + sign, going)
        self.assertEqual(handed_in, (bits, things))
        self.assertEqual(joined(told[0], told[1]), handed_in)
        self.assert_not_touched(told[0][1], handed_in)
        self.assert_not_touched(told[1][1], handed_in)

    def test_by_hand(self):
        # The mixed names of 0 to 4 are 37, 208, 123, 38 and 209.
        room = ("", [(0, 5), (1, -6), (2, 7), (3, SIXTY), (4, 0)])
        low, high = parted(room)
        self.assert_room(low, "0", [(0, 5), (2, 7), (3, SIXTY)])
        self.assert_room(high, "1", [(1, -6), (4, 0)])
        self.assertEqual(parted(low), (("00", [(0, 5), (3, SIXTY)]), ("01", [(2, 7)])))
        self.assertEqual(parted(high), (("10", []), ("11", [(1, -6), (4, 0)])))

    def test_with_no_things(self):
        for bits in all_bits(0, 7):
            self.assert_parted(bits, [])

    def test_with_things_that_go_both_ways(self):
        for bits in all_bits(0, 7):
            names = names_under(bits)
            self.assertEqual(len(names), 2 ** (8 - len(bits)))
            self.assert_parted(bits, valued(names))
            self.assert_parted(bits, valued(names[::3]))

    def test_with_things_that_all_go_the_one_way(self):
        for bits in all_bits(0, 7):
            for sign in "01":
                names = names_under(bits + sign)
                self.assert_parted(bits, valued(names))
                self.assert_parted(bits, valued(names[:1]))

    def test_the_two_lists_are_not_the_same_one(self):
        low, high = parted(("", []))
        low[1].append((0, 1))
        self.assertEqual(high, ("1", []))

    def test_a_room_of_eight_bits_is_no_error(self):
        # The document parts rooms of fewer signs alone; beyond that nothing is refused and nothing gets lost.
        room = (own_signs(0), [(0, 5)])
        self.assertEqual(joined(*parted(room)), room)


class JoinedTest(RoomsCase):
    def assert_joined(self, bits, zeros, ones):
        low, high = (bits + "0", list(zeros)), (bits + "1", list(ones))
        told = joined(low, high)
        self.assert_room(told, bits, sorted(zeros + ones))
        self.assertEqual((low, high), ((bits + "0", zeros), (bits + "1", ones)))
        self.assertEqual(parted(told), (low, high))
        told[1].append((1000, 1))
        self.assertEqual((low, high), ((bits + "0", zeros), (bits + "1", ones)))
        self.assert_not_touched(told[1], low)
        self.assert_not_touched(told[1], high)

    def test_by_hand(self):
        told = joined(("10", []), ("11", [(1, -6), (4, 0)]))
        self.assert_room(told, "1", [(1, -6), (4, 0)])

    def test_where_names_lie_one_between_the_other(self):
        told = joined(("0", [(0, 9), (2, 1), (3, 5)]), ("1", [(1, 7), (4, -SIXTY)]))
        self.assert_room(told, "", [(0, 9), (1, 7), (2, 1), (3, 5), (4, -SIXTY)])

    def test_full_and_thinned_rooms(self):
        for bits in all_bits(0, 7):
            zeros, ones = valued(names_under(bits + "0")), valued(names_under(bits + "1"))
            self.assert_joined(bits, zeros, ones)
            self.assert_joined(bits, zeros[::2], ones[::3])

    def test_where_one_or_both_are_empty(self):
        for bits in all_bits(0, 7):
            zeros, ones = valued(names_under(bits + "0")), valued(names_under(bits + "1"))
            self.assert_joined(bits, zeros, [])
            self.assert_joined(bits, [], ones)
            self.assert_joined(bits, [], [])


if __name__ == "__main__":
    unittest.main()
