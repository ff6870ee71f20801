"""Points 1 to 3: names, mixed names and signs."""

import unittest

from reckoning import NO_NAMES
from splitrooms.errors import BadBound, BadName, NoStore, NoThing, RoomError
from splitrooms.mixing import SIGNS, mixed, signs, unmixed

ALL = range(256)


class MixedTest(unittest.TestCase):
    def test_each_name_against_what_is_left(self):
        for name in ALL:
            with self.subTest(name=name):
                self.assertEqual(mixed(name), divmod(171 * name + 37, 256)[1])
                self.assertIs(type(mixed(name)), int)

    def test_some_worked_out_by_hand(self):
        # 171 + 37 = 208; 342 + 37 = 379 = 256 + 123; 171 * 255 + 37 = 43642 = 170 * 256 + 122
        self.assertEqual([mixed(0), mixed(1), mixed(2), mixed(255)], [37, 208, 123, 122])

    def test_all_are_different_and_in_range(self):
        self.assertEqual(sorted(mixed(name) for name in ALL), list(ALL))


class UnmixedTest(unittest.TestCase):
    def test_there_and_back(self):
        for number in ALL:
            with self.subTest(number=number):
                self.assertEqual(unmixed(mixed(number)), number)
                self.assertEqual(mixed(unmixed(number)), number)
                self.assertIs(type(unmixed(number)), int)

    def test_the_name_is_the_one_found_by_trying_all(self):
        for number in ALL:
            names = [name for name in ALL if (171 * name + 37) % 256 == number]
            with self.subTest(number=number):
                self.assertEqual(names, [unmixed(number)])


class SignsTest(unittest.TestCase):
    def test_there_are_eight(self):
        self.assertEqual(SIGNS, 8)
        self.assertIs(type(SIGNS), int)

    def test_each_name(self):
        for name in ALL:
            with self.subTest(name=name):
                text = signs(name)
                self.assertIs(type(text), str)
                self.assertEqual(len(text), 8)
                left = (171 * name + 37) % 256
                for sign, worth in zip(text, (128, 64, 32, 16, 8, 4, 2, 1)):
                    self.assertEqual(sign, "1" if left >= worth else "0")
                    left -= worth if left >= worth else 0

    def test_some_worked_out_by_hand(self):
        # 37 = 32 + 4 + 1; 208 = 128 + 64 + 16; 123 = 64 + 32 + 16 + 8 + 2 + 1
        self.assertEqual(signs(0), "00100101")
        self.assertEqual(signs(1), "11010000")
        self.assertEqual(signs(2), "01111011")

    def test_the_least_and_the_greatest_mixed_name(self):
        self.assertEqual(signs(unmixed(0)), "00000000")
        self.assertEqual(signs(unmixed(255)), "11111111")
        self.assertEqual(signs(unmixed(1)), "00000001")
        self.assertEqual(signs(unmixed(128)), "10000000")

    def test_signs_are_the_same_just_where_names_are(self):
        texts = [signs(name) for name in ALL]
        for one in ALL:
            for other in ALL:
                self.assertEqual(texts[one] == texts[other], one == other)


class RefusalTest(unittest.TestCase):
    def test_what_is_no_name_is_refused(self):
        for asked in (mixed, unmixed, signs):
            for at, wrong in enumerate(NO_NAMES):
                with self.subTest(asked=asked.__name__, at=at):
                    with self.assertRaises(BadName) as caught:
                        asked(wrong)
                    self.assertIsInstance(caught.exception, RoomError)
                    self.assertIsInstance(caught.exception, ValueError)
                    self.assertNotIsInstance(caught.exception, (BadBound, NoThing, NoStore))

    def test_what_is_refused_is_not_changed(self):
        for asked in (mixed, unmixed, signs):
            rows, table = [7, [8]], {7: 8}
            for wrong in (rows, table):
                with self.assertRaises(BadName):
                    asked(wrong)
            self.assertEqual((rows, table), ([7, [8]], {7: 8}))

    def test_the_ends_of_the_names_are_taken(self):
        for name in (0, 255):
            mixed(name), unmixed(name), signs(name)


if __name__ == "__main__":
    unittest.main()
