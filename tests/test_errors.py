"""Point 1, as far as it speaks of refusals: the errors."""

import unittest

from splitrooms.errors import BadBound, BadName, NoStore, NoThing, RoomError

REFUSALS = (BadName, BadBound, NoThing, NoStore)


class ErrorsTest(unittest.TestCase):
    def test_any_refusal_is_a_value_error(self):
        self.assertTrue(issubclass(RoomError, ValueError))
        self.assertIsNot(RoomError, ValueError)

    def test_each_refusal_is_a_room_error(self):
        for refusal in REFUSALS:
            with self.subTest(refusal=refusal.__name__):
                self.assertTrue(issubclass(refusal, RoomError))
                self.assertIsNot(refusal, RoomError)
                with self.assertRaises(RoomError):
                    raise refusal("why")

    def test_no_refusal_is_under_another(self):
        for one in REFUSALS:
            for other in REFUSALS:
                if one is not other:
                    with self.subTest(one=one.__name__, other=other.__name__):
                        self.assertFalse(issubclass(one, other))

    def test_they_are_defined_in_their_file(self):
        for error in (RoomError, *REFUSALS):
            self.assertEqual(error.__module__, "splitrooms.errors")


if __name__ == "__main__":
    unittest.main()
