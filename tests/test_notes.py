"""Point 12: stores written and read again."""

import re
import unittest

from reckoning import (
    NAMES_UNDER, SIXTY, VALUES, board_of, depth_of, numbers, rooms_of, spread, text_of, valued,
)
from splitrooms import notes
from splitrooms.errors import BadBound, BadName, NoStore, NoThing, RoomError
from splitrooms.notes import read, written
from splitrooms.stores import Store

BOUNDS = (1, 2, 3, 7, 64)

# Things by the bounds below: 0 has the signs 00100101, 1 has 11010000, 2 has 01111011, 3 has 00100110.
TWO = "bound 2\n00: 0=5 3=0\n01: 2=7\n1: 1=-6"
# 4 has 11010001: it parts from 1 with its last sign alone, so most of the rooms are empty.
ONE = (
    "bound 1\n0:\n10:\n1100:\n11010000: 1=10\n11010001: 4=11\n1101001:\n110101:\n11011:\n111:"
)
LONE = "bound 64\n: 0=5 1=-6 2=7 255=0"
EMPTY = "bound 3\n:"

ROW = re.compile(r"([01]{0,8}):((?: [0-9]{1,3}=-?[0-9]{1,60})*)", re.ASCII)


def filled(bound, things):
    store = Store(bound)
    for name, value in things.items():
        store.put(name, value)
    return store


def is_written_of_some_store(text):
    """Worked out apart from the program: by the form, and then by the letter."""
    head, *rows = text.split("\n")
    if not re.fullmatch(r"bound [1-9][0-9]?", head, re.ASCII) or int(head[6:]) > 64:
        return False
    things = {}
    for row in rows:
        found = ROW.fullmatch(row)
        if not found:
            return False
        for word in found[2].split():
            name, value = word.split("=")
            if int(name) > 255:
                return False
            things[int(name)] = int(value)
    return text_of(int(head[6:]), things) == text


class NotesCase(unittest.TestCase):
    def assert_no_store(self, text):
        with self.assertRaises(NoStore) as caught:
            read(text)
        self.assertIs(type(caught.exception), NoStore)
        self.assertIsInstance(caught.exception, RoomError)
        self.assertIsInstance(caught.exception, ValueError)
        self.assertNotIsInstance(caught.exception, (BadName, BadBound, NoThing))

    def assert_no_stores(self, texts):
        for text in texts:
            with self.subTest(text=text):
                self.assert_no_store(text)

    def assert_read(self, text, bound, things):
        """What is read of the text is a store like any other with this bound and these things."""
        store = read(text)
        rooms = rooms_of(bound, things)
        self.assertIs(type(store), Store)
        self.assertEqual(store.bound, bound)
        self.assertEqual(store.things(), sorted(things.items()))
        self.assertEqual(store.size(), len(things))
        self.assertEqual(store.rooms(), rooms)
        self.assertEqual(store.board(), board_of(rooms))
        self.assertEqual(store.depth(), depth_of(rooms))
        self.assertEqual(written(store), text)


class WrittenTest(NotesCase):
    def test_they_are_defined_in_their_file(self):
        for asked in (written, read):
            self.assertEqual(asked.__module__, notes.__name__)

    def test_an_empty_store(self):
        self.assertEqual(written(Store(3)), EMPTY)
        self.assertEqual(written(Store(1)), "bound 1\n:")
        self.assertEqual(written(Store(64)), "bound 64\n:")

    def test_a_store_of_one_room(self):
        self.assertEqual(written(filled(64, {255: 0, 2: 7, 0: 5, 1: -6})), LONE)

    def test_a_store_of_many_rooms(self):
        self.assertEqual(written(filled(2, {0: 5, 1: -6, 2: 7, 3: 0})), TWO)

    def test_a_store_with_empty_rooms(self):
        self.assertEqual(written(filled(1, {1: 10, 4: 11})), ONE)

    def test_great_values(self):
        self.assertEqual(written(filled(2, {0: SIXTY})), "bound 2\n: 0=" + "9" * 60)
        self.assertEqual(written(filled(2, {0: -SIXTY})), "bound 2\n: 0=-" + "9" * 60)

    def test_many_stores(self):
        for bound in BOUNDS:
            for many in (0, 1, 2, 3, 20, 64, 65, 256):
                things = valued(spread(many, 9, 21))
                store = filled(bound, things)
                before = (store.rooms(), store.board(), store.things())
                self.assertEqual(written(store), text_of(bound, things))
                self.assertIs(type(written(store)), str)
                self.assertEqual((store.rooms(), store.board(), store.things()), before)

    def test_behind_deeds(self):
        store, things = Store(2), {}
        for at, name in enumerate(spread(120, 3, 9)):
            store.put(name, at)
            things[name] = at
            if at % 3 == 2:
                store.take(name)
                del things[name]
            self.assertEqual(written(store), text_of(2, things))


class ReadTest(NotesCase):
    def test_by_hand(self):
        self.assert_read(EMPTY, 3, {})
        self.assert_read(LONE, 64, {0: 5, 1: -6, 2: 7, 255: 0})
        self.assert_read(TWO, 2, {0: 5, 3: 0, 2: 7, 1: -6})
        self.assert_read(ONE, 1, {1: 10, 4: 11})

    def test_many_stores(self):
        for bound in BOUNDS:
            for many in (0, 1, 2, 3, 20, 64, 65, 256):
                things = valued(spread(many, 9, 21))
                self.assert_read(text_of(bound, things), bound, things)

    def test_each_bound(self):
        for bound in range(1, 65):
            self.assert_read(f"bound {bound}\n:", bound, {})

    def test_the_longest_text(self):
        things = dict.fromkeys(range(256), -SIXTY)
        text = text_of(1, things)
        self.assertLess(len(text), 20000)
        self.assert_read(text, 1, things)

    def test_values_are_read_as_they_were(self):
        for value in VALUES:
            self.assert_read(f"bound 2\n: 7={value}", 2, {7: value})

    def test_each_name(self):
        for name in range(256):
            self.assert_read(f"bound 2\n: {name}=3", 2, {name: 3})

    def test_deeds_are_done_to_what_was_read(self):
        for bound in BOUNDS:
            things = valued(spread(70, 9, 21))
            store = read(text_of(bound, things))
            for at, name in enumerate(spread(150, 30, 5)):
                if name in things and at % 2 == 0:
                    self.assertEqual(store.take(name), things.pop(name))
                else:
                    self.assertEqual(store.put(name, at), things.get(name))
                    things[name] = at
                self.assertEqual(store.find(name), things.get(name))
                self.assertEqual(written(store), text_of(bound, things))
            with self.assertRaises(BadName):
                store.put(256, 1)
            for name in sorted(things):
                store.take(name)
            self.assertEqual(written(store), f"bound {bound}\n:")

    def test_two_stores_read_of_one_text_do_not_disturb_one_another(self):
        one, other = read(TWO), read(TWO)
        one.take(0)
        one.put(9, 9)
        self.assertEqual(written(other), TWO)


class RefusalTest(NotesCase):
    def test_empty_and_short_texts(self):
        self.assert_no_stores(("", "\n", " ", ":", "\n:", "bound", "bound ", "bound 3", "bound 3\n", "bound\n:", "x"))

    def test_each_beginning_of_a_text(self):
        for text in (EMPTY, TWO, ONE):
            for at in range(len(text)):
                if not is_written_of_some_store(text[:at]):
                    self.assert_no_store(text[:at])

    def test_a_line_end_behind_the_last_row(self):
        for text in (EMPTY, LONE, TWO, ONE):
            self.assert_no_stores((text + "\n", text + "\n\n", "\n" + text, text.replace("\n", "\n\n", 1)))

    def test_other_line_ends(self):
        for text in (EMPTY, LONE, TWO, ONE):
            for end in ("\r", "\r\n", "\n\r", "\v", "\f", "\x1c", "\x85", "\u2028", " ", ""):
                self.assert_no_stores((text.replace("\n", end), text.replace("\n", end, 1), text + end + "\n"))

    def test_rows_exchanged_told_twice_or_left_out(self):
        for text in (EMPTY, LONE, TWO, ONE):
            rows = text.split("\n")
            for at in range(len(rows)):
                self.assert_no_stores((
                    "\n".join(rows[:at] + rows[at + 1:]),
                    "\n".join(rows[:at + 1] + rows[at:]),
                    "\n".join(rows + [rows[at]]),
                ))
                for other in range(at):
                    turned = list(rows)
                    turned[at], turned[other] = rows[other], rows[at]
                    self.assert_no_store("\n".join(turned))

    def test_wrong_bits(self):
        self.assert_no_stores((
            TWO.replace("\n1:", "\n0:"), TWO.replace("\n1:", "\n10:"), TWO.replace("\n1:", "\n:"),
            TWO.replace("\n00:", "\n000:"), TWO.replace("\n00:", "\n02:"), TWO.replace("\n00:", "\n0b00:"),
            TWO.replace("\n00:", "\n01:"), TWO.replace("\n00:", "\n:"), TWO.replace("\n00:", "\n 00:"),
            EMPTY.replace("\n:", "\n0:"), EMPTY.replace("\n:", "\n000000000:"), LONE.replace("\n:", "\n0:"),
            ONE.replace("\n0:", "\n:"), ONE.replace("\n0:", "\n00:"),
            TWO.replace("\n1:", "\n\u0661:"),
        ))

    def test_wrong_colons(self):
        self.assert_no_stores((
            "bound 3\n", "bound 3\n::", "bound 3\n;", "bound 3:\n:", TWO.replace(":", ""), TWO.replace(":", "::"),
            TWO.replace(":", ";"), TWO.replace(":", " :"), TWO.replace(": ", ":"), TWO.replace(": ", " "),
        ))

    def test_a_thing_in_a_room_that_is_not_its_own(self):
        self.assert_no_stores((
            "bound 2\n00: 0=5 3=0\n01: 1=-6\n1: 2=7",
            "bound 2\n00: 0=5\n01: 2=7 3=0\n1: 1=-6",
            "bound 2\n00: 0=5 1=-6 3=0\n01: 2=7\n1:",
            "bound 2\n00:\n01:\n1: 0=5 1=-6 2=7 3=0",
            ONE.replace(" 1=10", " 4=11", 1).replace("11010001: 4=11", "11010001: 1=10"),
            ONE.replace("10:\n", "10: 4=11\n", 1).replace("11010001: 4=11", "11010001:"),
        ))

    def test_names_that_do_not_rise(self):
        self.assert_no_stores((
            "bound 2\n: 1=-6 0=5", "bound 2\n00: 3=0 0=5\n01: 2=7\n1: 1=-6", "bound 64\n: 0=5 2=7 1=-6 255=0",
        ))

    def test_a_name_told_twice(self):
        self.assert_no_stores((
            "bound 2\n: 0=5 0=5", "bound 2\n: 0=5 0=6", "bound 64\n: 0=5 1=1 0=5",
            TWO + " 1=-6", TWO + " 0=5", "bound 1\n: 0=5 0=5", "bound 1\n: 0=5 0=5 0=5",
        ))

    def test_names_that_are_none(self):
        self.assert_no_stores(
            f"bound 2\n: {name}=5" for name in (-1, 256, 257, 1000, 10 ** 20, "", "x", "None", "True", "1.0", "1e1")
        )

    def test_numbers_written_otherwise(self):
        wrong = (
            "+1", "01", "-0", "00", "1_0", " 1", "1 ", "\t1", "1\t", "\r1", "1\r", "0x1", "0b1", "1.", "1.0", "1e0",
            "- 1", "--1", "+-1", "-+1", "-", "+", "", "-01", "1-", "1,0", "(1)", "True", "None", "\u0661", "\uff11",
            "\xb2", "\u2460", "1\u0660", "-\u0661", "\u22121", "\xa01", "1\xa0", "\u20031", "_1", "1_", "1=", "=1",
            "1=1", "0" * 61, "\x001", "\ud800",
        )
        for word in wrong:
            self.assert_no_stores((
                f"bound 2\n: {word}=5", f"bound 2\n: 7={word}", f"bound {word}\n:",
                f"bound 2\n: 3=1 {word}=5", f"bound 2\n: 3={word} 7=5",
            ))
        self.assert_no_store("bound 2\n: -1=5")

    def test_values_that_are_too_long(self):
        least = "1" + "0" * 60
        for value in (least, "9" * 61, "9" * 100, "9" * 5000, "9" * 19000):
            self.assert_no_stores((f"bound 2\n: 7={value}", f"bound 2\n: 7=-{value}", f"bound 2\n: {value}=7"))
            self.assert_no_store(f"bound {value}\n:")
        things = valued(spread(20))
        for value in (10 ** 60, -(10 ** 60), 10 ** 61):
            self.assert_no_store(text_of(3, {**things, 7: value}))

    def test_bounds_that_are_none(self):
        wrong = (
            "0", "65", "01", "", "-1", "-3", "+3", "100", "256", str(10 ** 20), "3 ", " 3", "3_", "1_0", "x", "True",
            "None", "3.0", "\u0663", "3:", "3=3", "3 3", "064", "-0",
        )
        self.assert_no_stores(f"bound {bound}\n:" for bound in wrong)
        self.assert_no_stores((
            "3\n:", "Bound 3\n:", "BOUND 3\n:", "bound3\n:", "bound=3\n:", "bound\t3\n:", "bound  3\n:",
            " bound 3\n:", "bounds 3\n:", "bound bound 3\n:", ":", "bound 3\nbound 3\n:",
        ))

    def test_another_bound_than_that_of_the_rooms(self):
        for text, bound in ((TWO, 2), (ONE, 1)):
            for other in range(1, 65):
                if other != bound:
                    wrong = text.replace(f"bound {bound}", f"bound {other}")
                    self.assertEqual(is_written_of_some_store(wrong), False)
                    self.assert_no_store(wrong)

    def test_blanks_tabs_and_carriage_returns(self):
        for text in (EMPTY, LONE, TWO, ONE):
            for sign in (" ", "\t", "\r", "\n", "\0", "\xa0", "\ufeff", "\u200b"):
                for at in range(len(text) + 1):
                    self.assert_no_store(text[:at] + sign + text[at:])
            self.assert_no_stores((text.replace(" ", "\t"), text.replace(" ", "  "), text.replace(" ", "")))

    def test_rooms_parted_too_far_or_not_far_enough(self):
        self.assert_no_stores((
            "bound 2\n0:\n1:", "bound 2\n0: 0=5\n1: 1=-6", "bound 2\n0:\n1: 1=-6",
            "bound 2\n: 0=5 1=-6 2=7", "bound 2\n: 0=5 1=-6 2=7 3=0",
            "bound 2\n0: 0=5 2=7 3=0\n1: 1=-6",
            "bound 2\n00: 0=5 3=0\n01: 2=7\n10:\n11: 1=-6",
            "bound 2\n000:\n001: 0=5 3=0\n01: 2=7\n1: 1=-6",
            "bound 3\n00: 0=5 3=0\n01: 2=7\n1: 1=-6",
            "bound 1\n00: 0=5 3=0\n01: 2=7\n1: 1=-6",
            "bound 1\n: 1=10 4=11", "bound 1\n0:\n1: 1=10 4=11", ONE.replace("\n0:", "\n00:\n01:"),
        ))

    def test_rooms_left_out(self):
        self.assert_no_stores((
            "bound 2\n00: 0=5 3=0\n01: 2=7", "bound 2\n00: 0=5 3=0\n1: 1=-6", ONE.replace("\n10:", ""),
            ONE.replace("\n111:", ""), "bound 1\n11010000: 1=10\n11010001: 4=11",
        ))

    def test_words_that_are_no_things(self):
        self.assert_no_stores(
            f"bound 9\n:{word}" for word in
            (" ", "5=7", " 5", " =", " 5=", " =7", " 5:7", " 5==7", " 5=7=9", " 5=7,6=8", " 5=7  6=8", " x=y", "x")
        )

    def test_more_things_than_a_store_has_names(self):
        self.assert_no_store("bound 64\n:" + "".join(f" {name % 256}=1" for name in range(1000)))
        self.assert_no_store("bound 1\n:" + " 1=1" * 4000)

    def test_each_text_that_differs_in_one_sign(self):
        """Each is read just where it is what is written of some store."""
        read_too, refused = 0, 0
        for text in (EMPTY, TWO, ONE, "bound 1\n0: 0=0\n1: 1=10", "bound 12\n: 9=-1 10=12 100=0"):
            for at in range(len(text)):
                for sign in "019-+=: \n_bx\u0661":
                    for changed in (text[:at] + sign + text[at + 1:], text[:at] + sign + text[at:]):
                        if is_written_of_some_store(changed):
                            read_too += 1
                            self.assertEqual(written(read(changed)), changed)
                        else:
                            refused += 1
                            self.assert_no_store(changed)
                without = text[:at] + text[at + 1:]
                if is_written_of_some_store(without):
                    self.assertEqual(written(read(without)), without)
                else:
                    self.assert_no_store(without)
        self.assertGreater(read_too, 100)
        self.assertGreater(refused, 1000)

    def test_rows_by_chance(self):
        """Texts of right things in rooms that are put together by turns, most of them wrong."""
        row = numbers(5)
        for _ in range(300):
            bound = next(row) % 4 + 1
            things = valued(NAMES_UNDER["01"][:next(row) % 6] + NAMES_UNDER["110"][:next(row) % 6])
            rows = [f"bound {bound}"]
            for bits, held in rooms_of(next(row) % 4 + 1, things):
                rows.append(bits + ":" + "".join(f" {name}={value}" for name, value in held))
            text = "\n".join(rows)
            if is_written_of_some_store(text):
                self.assert_read(text, bound, things)
            else:
                self.assert_no_store(text)


if __name__ == "__main__":
    unittest.main()
