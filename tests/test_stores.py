"""Points 1, 4 to 7 and 9 to 11: stores, their rooms and boards, and what is done to them."""

import unittest

from reckoning import (
    ALL_BITS, NAMES_UNDER, NO_BOUNDS, NO_NAMES, SIXTY, VALUES,
    board_of, depth_of, numbers, own_signs, place_of, rooms_of, spread, text_of, valued,
)
from splitrooms import stores
from splitrooms.errors import BadBound, BadName, NoStore, NoThing, RoomError
from splitrooms.notes import written
from splitrooms.stores import Store

BOUNDS = (1, 2, 3, 64)
METHODS = ("put", "take", "find", "look", "size", "depth", "board", "rooms", "things")


class StoreCase(unittest.TestCase):
    def state(self, store):
        return store.bound, store.rooms(), store.board(), store.depth(), store.things(), store.size()

    def assert_deep(self, store, bound, things):
        """The store tells just what the words of the points tell of this bound and these things."""
        rooms = rooms_of(bound, things)
        board = board_of(rooms)
        depth = depth_of(rooms)
        self.assertEqual(store.bound, bound)
        self.assertEqual(store.rooms(), rooms)
        self.assertEqual(store.depth(), depth)
        self.assertEqual(len(store.board()), 2 ** depth)
        self.assertEqual(store.board(), board)
        self.assertEqual(store.things(), sorted(things.items()))
        self.assertEqual(store.size(), len(things))
        self.assert_kinds(store)
        counts = {bits: len(held) for bits, held in rooms}
        for name in range(256):
            place = place_of(depth, name)
            self.assertEqual(store.look(name), (place, board[place], counts[board[place]]))
            self.assertTrue(own_signs(name).startswith(board[place]))
            self.assertEqual(store.find(name), things.get(name))

    def assert_kinds(self, store):
        self.assertIs(type(store.bound), int)
        self.assertIs(type(store.size()), int)
        self.assertIs(type(store.depth()), int)
        self.assertIs(type(store.board()), list)
        self.assertIs(type(store.rooms()), list)
        self.assertIs(type(store.things()), list)
        for bits in store.board():
            self.assertIs(type(bits), str)
        for room in store.rooms():
            self.assertIs(type(room), tuple)
            self.assertEqual([type(part) for part in room], [str, list])
            self.assertLessEqual(len(room[1]), store.bound)
            for thing in room[1]:
                self.assertIs(type(thing), tuple)
        for thing in store.things():
            self.assertIs(type(thing), tuple)
        self.assertIs(type(store.look(0)), tuple)
        self.assertEqual([type(part) for part in store.look(0)], [int, str, int])

    def assert_refused(self, refusal, asked, *handed_in):
        with self.assertRaises(refusal) as caught:
            asked(*handed_in)
        self.assertIs(type(caught.exception), refusal)
        self.assertIsInstance(caught.exception, RoomError)
        self.assertIsInstance(caught.exception, ValueError)
        others = tuple({BadName, BadBound, NoThing, NoStore} - {refusal})
        self.assertNotIsInstance(caught.exception, others)


def filled(bound, things):
    store = Store(bound)
    for name, value in things.items():
        store.put(name, value)
    return store


class InterfaceTest(StoreCase):
    def test_the_class_and_its_methods_are_defined_in_their_file(self):
        self.assertEqual(Store.__module__, stores.__name__)
        for name in METHODS:
            self.assertIn(name, vars(Store))


class BoundTest(StoreCase):
    def test_each_bound_is_taken_and_told(self):
        for bound in range(1, 65):
            store = Store(bound)
            self.assertEqual(store.bound, bound)
            self.assertIs(type(store.bound), int)

    def test_what_is_no_bound_is_refused(self):
        for at, wrong in enumerate(NO_BOUNDS):
            with self.subTest(at=at):
                self.assert_refused(BadBound, Store, wrong)

    def test_what_is_refused_is_not_changed(self):
        rows, table = [7, [8]], {7: 8}
        for wrong in (rows, table):
            self.assert_refused(BadBound, Store, wrong)
        self.assertEqual((rows, table), ([7, [8]], {7: 8}))

    def test_the_bound_is_reached_before_the_room_is_parted(self):
        for bound in range(1, 65):
            names = spread(bound + 1)
            store = filled(bound, valued(names[:-1]))
            self.assertEqual([bits for bits, _ in store.rooms()], [""])
            self.assertEqual((store.depth(), store.board()), (0, [""]))
            store.put(names[-1], 0)
            self.assertGreater(store.depth(), 0)
            self.assert_deep(store, bound, {**valued(names[:-1]), names[-1]: 0})


class EmptyTest(StoreCase):
    def test_a_new_store(self):
        for bound in BOUNDS:
            store = Store(bound)
            self.assertEqual(store.rooms(), [("", [])])
            self.assertEqual(store.board(), [""])
            self.assertEqual((store.depth(), store.size(), store.things()), (0, 0, []))
            self.assertEqual(store.look(7), (0, "", 0))
            self.assert_deep(store, bound, {})


class ByHandTest(StoreCase):
    """The mixed names of 0 to 4 are 37, 208, 123, 38 and 209: 00100101, 11010000, 01111011, 00100110, 11010001."""

    def test_rooms_and_board_as_things_come_and_go(self):
        store = filled(2, {0: 5, 1: -6})
        self.assertEqual(store.rooms(), [("", [(0, 5), (1, -6)])])
        self.assertIsNone(store.put(2, 7))
        self.assertEqual(store.rooms(), [("0", [(0, 5), (2, 7)]), ("1", [(1, -6)])])
        self.assertEqual(store.board(), ["0", "1"])
        self.assertIsNone(store.put(3, SIXTY))
        self.assertEqual(store.rooms(), [("00", [(0, 5), (3, SIXTY)]), ("01", [(2, 7)]), ("1", [(1, -6)])])
        self.assertEqual(store.board(), ["00", "01", "1", "1"])
        self.assertEqual(store.look(1), (3, "1", 1))
        self.assertEqual(store.look(3), (0, "00", 2))
        self.assertEqual(store.take(0), 5)
        self.assertEqual(store.rooms(), [("0", [(2, 7), (3, SIXTY)]), ("1", [(1, -6)])])
        self.assertEqual(store.board(), ["0", "1"])
        self.assertEqual(store.take(1), -6)
        self.assertEqual(store.rooms(), [("", [(2, 7), (3, SIXTY)])])
        self.assertEqual(store.board(), [""])

    def test_empty_rooms_stand_too(self):
        store = filled(2, {1: 10, 4: 11, 5: 12})
        # The mixed name of 5 is 892 - 768 = 124: 01111100.
        self.assertEqual(store.rooms(), [("0", [(5, 12)]), ("1", [(1, 10), (4, 11)])])
        store = filled(1, {1: 10, 4: 11})
        self.assertEqual(store.rooms(), [
            ("0", []), ("10", []), ("1100", []), ("11010000", [(1, 10)]), ("11010001", [(4, 11)]),
            ("1101001", []), ("110101", []), ("11011", []), ("111", []),
        ])
        self.assertEqual(store.depth(), 8)
        self.assertEqual(len(store.board()), 256)
        self.assertEqual(store.board()[:128], ["0"] * 128)
        self.assertEqual(store.board()[208:212], ["11010000", "11010001", "1101001", "1101001"])
        self.assertEqual(store.take(4), 11)
        self.assertEqual(store.rooms(), [("", [(1, 10)])])
        self.assertEqual(store.board(), [""])


class DeedsTest(StoreCase):
    def test_put_tells_what_was_there(self):
        for bound in BOUNDS:
            store = filled(bound, valued(spread(100)))
            name = 255
            while store.find(name) is not None:
                name -= 1
            self.assertIsNone(store.put(name, 0))
            self.assertEqual(store.put(name, SIXTY), 0)
            self.assertEqual(store.put(name, -SIXTY), SIXTY)
            self.assertEqual(store.put(name, -1), -SIXTY)
            self.assertEqual(store.find(name), -1)
            self.assertEqual(store.size(), 101)

    def test_put_of_a_name_in_a_full_room_parts_nothing(self):
        for bound in (1, 2, 3, 64):
            store = filled(bound, valued(spread(bound)))
            store.put(spread(1)[0], 99)
            self.assertEqual(store.depth(), 0)
            self.assertEqual(store.size(), bound)

    def test_take_tells_and_takes_away(self):
        for bound in BOUNDS:
            store = filled(bound, {7: 0, 8: SIXTY, 9: -SIXTY})
            self.assertEqual(store.take(8), SIXTY)
            self.assertIsNone(store.find(8))
            self.assert_deep(store, bound, {7: 0, 9: -SIXTY})
            self.assertEqual(store.take(7), 0)
            self.assertEqual(store.take(9), -SIXTY)
            self.assert_deep(store, bound, {})

    def test_a_name_without_a_value_is_refused_by_take(self):
        for bound in BOUNDS:
            for many in (0, 1, 5, 40):
                things = valued(spread(many))
                store = filled(bound, things)
                before = self.state(store)
                for name in range(256):
                    if name not in things:
                        self.assert_refused(NoThing, store.take, name)
                self.assertEqual(self.state(store), before)
                self.assert_deep(store, bound, things)

    def test_what_was_taken_is_refused_the_second_time(self):
        store = filled(2, valued(spread(9)))
        store.take(77)
        self.assert_refused(NoThing, store.take, 77)

    def test_values_below_nought_and_of_sixty_figures(self):
        for bound in BOUNDS:
            store = Store(bound)
            for value in VALUES:
                store.put(3, value)
                self.assertEqual(store.find(3), value)
                self.assertEqual(store.things(), [(3, value)])
                self.assertEqual(store.take(3), value)

    def test_find_and_look_change_nothing(self):
        for bound in BOUNDS:
            store = filled(bound, valued(spread(30)))
            before = self.state(store)
            for name in range(256):
                store.find(name)
                store.look(name)
            self.assertEqual(self.state(store), before)

    def test_what_is_no_name_is_refused_and_changes_nothing(self):
        for bound in BOUNDS:
            for many in (0, 3, 40):
                things = valued(spread(many))
                store = filled(bound, things)
                before = self.state(store)
                for at, wrong in enumerate(NO_NAMES):
                    with self.subTest(bound=bound, many=many, at=at):
                        self.assert_refused(BadName, store.put, wrong, 5)
                        self.assertEqual(self.state(store), before)
                        for asked in (store.take, store.find, store.look):
                            self.assert_refused(BadName, asked, wrong)
                            self.assertEqual(self.state(store), before)
                self.assert_deep(store, bound, things)

    def test_what_is_refused_is_not_changed(self):
        store = Store(1)
        rows, table = [7, [8]], {7: 8}
        for wrong in (rows, table):
            self.assert_refused(BadName, store.put, wrong, 5)
            for asked in (store.take, store.find, store.look):
                self.assert_refused(BadName, asked, wrong)
        self.assertEqual((rows, table), ([7, [8]], {7: 8}))

    def test_a_name_of_another_kind_does_not_find_what_is_there(self):
        store = filled(2, {0: 5, 1: 6, 7: 8})
        for wrong in (True, False, 1.0, 7.0, "7"):
            for asked in (store.take, store.find, store.look):
                self.assert_refused(BadName, asked, wrong)


class ManyDeedsTest(StoreCase):
    def deeds(self, bound, names, many, seed, every):
        """Puts and takes, by turns more of the ones and of the others, against a plain dict."""
        store, things = Store(bound), {}
        row = numbers(seed)
        for at in range(many):
            name = names[next(row) % len(names)]
            if next(row) % 10 < (7 if at // 60 % 2 == 0 else 2):
                value = VALUES[next(row) % len(VALUES)] + at
                self.assertEqual(store.put(name, value), things.get(name))
                things[name] = value
            elif name in things:
                self.assertEqual(store.take(name), things.pop(name))
            else:
                self.assert_refused(NoThing, store.take, name)
            self.assertEqual(store.size(), len(things))
            self.assertEqual(store.find(name), things.get(name))
            self.assertEqual(store.things(), sorted(things.items()))
            self.assertEqual(store.rooms(), rooms_of(bound, things))
            if at % every == 0:
                self.assert_deep(store, bound, things)
        self.assert_deep(store, bound, things)

    def test_names_from_all_over(self):
        for bound in BOUNDS:
            with self.subTest(bound=bound):
                self.deeds(bound, list(range(256)), 400, bound, 40)

    def test_names_that_begin_alike(self):
        for bound in BOUNDS:
            for bits in ("0000", "0110", "1111"):
                with self.subTest(bound=bound, bits=bits):
                    self.assertEqual(len(NAMES_UNDER[bits]), 16)
                    self.deeds(bound, NAMES_UNDER[bits], 200, bound + 7, 40)

    def test_names_that_begin_alike_and_others(self):
        for bound in BOUNDS:
            with self.subTest(bound=bound):
                self.deeds(bound, NAMES_UNDER["10"] + NAMES_UNDER["0101"] + [0, 1], 250, bound + 90, 50)

    def test_all_names_come_and_go(self):
        for bound in BOUNDS:
            for step in (1, 77, 255):
                with self.subTest(bound=bound, step=step):
                    store, things = Store(bound), {}
                    for at, name in enumerate(spread(256, 5, step)):
                        self.assertIsNone(store.put(name, at))
                        things[name] = at
                        self.assertEqual(store.rooms(), rooms_of(bound, things))
                        if at % 51 == 0:
                            self.assert_deep(store, bound, things)
                    self.assert_deep(store, bound, things)
                    for at, name in enumerate(spread(256, 19, 3)):
                        self.assertEqual(store.take(name), things.pop(name))
                        self.assertEqual(store.rooms(), rooms_of(bound, things))
                        if at % 51 == 0:
                            self.assert_deep(store, bound, things)
                    self.assert_deep(store, bound, {})
                    self.assertEqual(store.rooms(), [("", [])])
                    self.assertEqual(store.board(), [""])

    def test_all_names_with_a_bound_of_one(self):
        store = filled(1, valued(range(256)))
        self.assertEqual(store.depth(), 8)
        self.assertEqual(store.board(), [bits for bits in ALL_BITS if len(bits) == 8])
        self.assertEqual(len(store.board()), 256)
        self.assertEqual([bits for bits, _ in store.rooms()], store.board())

    def test_names_that_begin_alike_the_board_shrinks_at_once(self):
        for sixteen in (NAMES_UNDER[bits] for bits in ALL_BITS if len(bits) == 4):
            store = filled(15, valued(sixteen))
            self.assertEqual(store.depth(), 5)
            store.take(sixteen[0])
            self.assertEqual((store.depth(), store.board()), (0, [""]))
            store.put(sixteen[0], 1)
            self.assertEqual((store.depth(), len(store.board())), (5, 32))


class OrderTest(StoreCase):
    def orders(self, things, seed):
        """The same things by several ways: other orders, other values before, other names come and gone."""
        names = sorted(things)
        row = numbers(seed)
        leaping = sorted(names, key=lambda name: next(row))
        others = [name for name in range(256) if name not in things]
        yield [("put", name) for name in names]
        yield [("put", name) for name in reversed(names)]
        yield [("put", name) for name in leaping]
        yield [("put", name) for name in names + leaping]
        yield [(deed, name) for deed in ("put", "take") for name in others] + [("put", name) for name in leaping]
        yield [("put", name) for name in others + names] + [("take", name) for name in reversed(others)]
        yield (
            [("put", name) for name in names] + [("take", name) for name in leaping]
            + [("put", name) for name in leaping]
        )

    def test_rooms_hang_on_the_things_alone(self):
        for bound in BOUNDS + (7,):
            for many in (0, 1, 2, 3, 9, 64, 65, 120, 256):
                things = valued(spread(many, 11, 45))
                for deeds in self.orders(things, many + bound):
                    store = Store(bound)
                    for deed, name in deeds:
                        if deed == "put":
                            store.put(name, things.get(name, 4))
                        else:
                            store.take(name)
                    self.assertEqual(store.rooms(), rooms_of(bound, things))
                    self.assertEqual(store.board(), board_of(rooms_of(bound, things)))
                    self.assertEqual(store.depth(), depth_of(rooms_of(bound, things)))
                    self.assertEqual(written(store), text_of(bound, things))

    def test_values_do_not_matter_to_the_rooms(self):
        one, other = filled(3, valued(spread(50))), filled(3, dict.fromkeys(spread(50), -9))
        self.assertEqual(one.board(), other.board())


class OwnTest(StoreCase):
    def spoil(self, store):
        """Changes all that the store tells."""
        told = store.rooms()
        for _, things in told:
            things.append((300, 1))
            things[0] = (301, 2)
        told[0] = ("x", [])
        told.append(("y", []))
        for _, things in store.rooms():
            things.clear()
        store.rooms().clear()
        told = store.board()
        told[0] = "x"
        told.append("y")
        store.board().clear()
        told = store.things()
        told.append((300, 1))
        told[0] = (301, 2)
        store.things().clear()

    def test_what_is_told_is_ones_own(self):
        for bound in BOUNDS:
            for many in (0, 1, 2, 20, 256):
                things = valued(spread(many))
                store = filled(bound, things)
                self.spoil(store)
                self.assert_deep(store, bound, things)
                store.put(200, 1)
                self.spoil(store)
                self.assert_deep(store, bound, {**things, 200: 1})
                store.take(200)
                self.spoil(store)
                things.pop(200, None)
                self.assert_deep(store, bound, things)

    def test_what_was_told_stays_when_the_store_changes(self):
        store = filled(2, valued(spread(20)))
        told = (store.rooms(), store.board(), store.things())
        before = rooms_of(2, valued(spread(20)))
        for name in spread(20):
            store.put(name, 1000)
        for name in spread(20):
            store.take(name)
        self.assertEqual(told, (before, board_of(before), sorted(valued(spread(20)).items())))

    def test_stores_do_not_disturb_one_another(self):
        one, other, third = Store(1), Store(1), Store(64)
        mine, yours = {}, {}
        for at, name in enumerate(spread(60)):
            one.put(name, at)
            mine[name] = at
            if at % 3 == 0:
                other.put(255 - name, -at)
                yours[255 - name] = -at
            if at % 4 == 3:
                one.take(name)
                del mine[name]
        self.assert_deep(one, 1, mine)
        self.assert_deep(other, 1, yours)
        self.assert_deep(third, 64, {})


class LookTest(StoreCase):
    def test_at_depth_nought(self):
        store = filled(3, {1: 1, 4: 4})
        for name in (0, 1, 4, 255):
            self.assertEqual(store.look(name), (0, "", 2))

    def test_for_names_that_are_there_and_that_are_not(self):
        for bound in BOUNDS:
            for many in (0, 1, 2, 3, 10, 65, 200, 256):
                store = filled(bound, valued(spread(many, 40, 13)))
                depth = depth_of(rooms_of(bound, valued(spread(many, 40, 13))))
                for name in range(256):
                    place, bits, held = store.look(name)
                    self.assertEqual(place, int("0" + own_signs(name)[:depth], 2))
                    self.assertEqual(bits, store.board()[place])
                    self.assertEqual(held, len(dict(store.rooms())[bits]))


if __name__ == "__main__":
    unittest.main()
