"""Point 8: boards doubled, halved, parted and joined."""

import unittest

from reckoning import board_of, rooms_of, spread, valued
from splitrooms import boards
from splitrooms.boards import can_halve, doubled, halved, joined_at, parted_at


def store_boards():
    """Boards of the rooms of many stores, each with the rooms."""
    told = []
    for bound in (1, 2, 3, 5, 17, 64):
        for many in (0, 1, 2, 3, 4, 7, 12, 40, 130, 256):
            for start, step in ((0, 77), (3, 1), (100, 3)):
                rooms = rooms_of(bound, valued(spread(many, start, step)))
                told.append((board_of(rooms), rooms))
    return told


STORE_BOARDS = store_boards()


def sample_boards():
    """Boards of 1, 2, 4 and on to 128 texts, all texts different, all alike, and those of stores."""
    told = []
    for many in (1, 2, 4, 8, 16, 32, 64, 128):
        depth = many.bit_length() - 1
        told.append([format(at, "b").zfill(depth) if depth else "" for at in range(many)])
        told.append(["0"] * many)
    return told + [board for board, _ in STORE_BOARDS if len(board) < 256]


class BoardsCase(unittest.TestCase):
    def assert_own(self, asked, board, *more):
        """What is handed in stays, also when what was told is changed; and the other way round."""
        before = list(board)
        told = asked(board, *more)
        told_before = list(told)
        self.assertIs(type(told), list)
        self.assertEqual(board, before)
        told[0] = "x"
        told.append("y")
        self.assertEqual(board, before)
        told.clear()
        self.assertEqual(board, before)
        told = asked(board, *more)
        board[0] = "x"
        board.append("y")
        self.assertEqual(told, told_before)
        board[:] = before

    def test_they_are_defined_in_their_file(self):
        for asked in (doubled, halved, can_halve, parted_at, joined_at):
            self.assertEqual(asked.__module__, boards.__name__)


class DoubledTest(BoardsCase):
    def test_by_hand(self):
        self.assertEqual(doubled([""]), ["", ""])
        self.assertEqual(doubled(["0", "1"]), ["0", "0", "1", "1"])
        self.assertEqual(doubled(["00", "01", "1", "1"]), ["00", "00", "01", "01", "1", "1", "1", "1"])

    def test_each_text_twice_side_by_side(self):
        for board in sample_boards():
            told = doubled(board)
            self.assertEqual(len(told), 2 * len(board))
            for place, bits in enumerate(board):
                self.assertEqual(told[2 * place:2 * place + 2], [bits, bits])
            self.assert_own(doubled, board)


class HalvedTest(BoardsCase):
    def test_by_hand(self):
        self.assertEqual(halved(["", ""]), [""])
        self.assertEqual(halved(["0", "0", "1", "1"]), ["0", "1"])
        self.assertEqual(halved(["0", "0", "0", "0", "10", "10", "11", "11"]), ["0", "0", "10", "11"])

    def test_of_what_was_doubled_it_is_what_was(self):
        for board in sample_boards():
            twice = doubled(board)
            self.assertEqual(halved(twice), board)
            self.assert_own(halved, twice)


class CanHalveTest(BoardsCase):
    def test_what_was_doubled_can_be_halved(self):
        for board in sample_boards():
            twice = doubled(board)
            before = list(twice)
            self.assertIs(can_halve(twice), True)
            self.assertEqual(twice, before)

    def test_one_place_alone_cannot(self):
        for bits in ("", "0", "1"):
            self.assertIs(can_halve([bits]), False)

    def test_not_where_one_text_of_a_pair_differs(self):
        for board in sample_boards():
            twice = doubled(board)
            for place in range(len(twice)):
                wrong = list(twice)
                wrong[place] += "0"
                self.assertIs(can_halve(wrong), False)

    def test_alike_across_the_middle_of_two_pairs_is_not_enough(self):
        self.assertIs(can_halve(["0", "1"]), False)
        self.assertIs(can_halve(["00", "01", "01", "1"]), False)
        self.assertIs(can_halve(["0", "1", "0", "1"]), False)

    def test_boards_of_stores_cannot(self):
        for board, _ in STORE_BOARDS:
            self.assertIs(can_halve(board), False)


class PartedAtTest(BoardsCase):
    def test_by_hand(self):
        self.assertEqual(parted_at(["", ""], ""), ["0", "1"])
        self.assertEqual(parted_at(["", "", "", ""], ""), ["0", "0", "1", "1"])
        self.assertEqual(parted_at(["0", "0", "10", "11"], "0"), ["00", "01", "10", "11"])
        self.assertEqual(parted_at(["00", "01", "1", "1"], "1"), ["00", "01", "10", "11"])
        self.assertEqual(
            parted_at(["00", "00", "010", "011", "1", "1", "1", "1"], "1"),
            ["00", "00", "010", "011", "10", "10", "11", "11"],
        )

    def test_at_two_places_and_at_more(self):
        seen = set()
        for board, rooms in STORE_BOARDS:
            for bits, _ in rooms:
                places = [place for place, text in enumerate(board) if text == bits]
                if len(places) < 2:
                    continue
                seen.add(len(places))
                expected = list(board)
                for at, place in enumerate(places):
                    expected[place] = bits + ("0" if 2 * at < len(places) else "1")
                self.assertEqual(parted_at(board, bits), expected)
                self.assert_own(parted_at, board, bits)
        self.assertLessEqual({2, 4, 8, 16, 32}, seen)

    def test_the_whole_board(self):
        for many in (2, 4, 8, 16, 32, 64, 128, 256):
            expected = ["0"] * (many // 2) + ["1"] * (many // 2)
            self.assertEqual(parted_at([""] * many, ""), expected)


class JoinedAtTest(BoardsCase):
    def test_by_hand(self):
        self.assertEqual(joined_at(["0", "1"], ""), ["", ""])
        self.assertEqual(joined_at(["0", "0", "10", "11"], "1"), ["0", "0", "1", "1"])
        self.assertEqual(
            joined_at(["00", "00", "010", "011", "10", "10", "11", "11"], "1"),
            ["00", "00", "010", "011", "1", "1", "1", "1"],
        )

    def test_texts_that_begin_alike_stay(self):
        # "0" is one sign more than "", but "00" and "10" are no such texts.
        self.assertEqual(joined_at(["00", "01", "10", "11"], "0"), ["0", "0", "10", "11"])
        self.assertEqual(
            joined_at(["000", "001", "01", "01", "100", "101", "110", "111"], "10"),
            ["000", "001", "01", "01", "10", "10", "110", "111"],
        )

    def test_each_pair_of_rooms(self):
        seen = set()
        for board, rooms in STORE_BOARDS:
            texts = [bits for bits, _ in rooms]
            for bits in {text[:-1] for text in texts if text}:
                if bits + "0" not in texts or bits + "1" not in texts:
                    continue
                expected = [bits if text[:-1] == bits and text != bits and text else text for text in board]
                seen.add(expected.count(bits))
                self.assertEqual(joined_at(board, bits), expected)
                self.assert_own(joined_at, board, bits)
        self.assertLessEqual({2, 4, 8}, seen)

    def test_the_whole_board(self):
        for half in (1, 2, 4, 8, 16, 32, 64, 128):
            self.assertEqual(joined_at(["0"] * half + ["1"] * half, ""), [""] * (2 * half))

    def test_what_was_parted_and_joined_is_what_was(self):
        for board, rooms in STORE_BOARDS:
            for bits, _ in rooms:
                if board.count(bits) > 1:
                    self.assertEqual(joined_at(parted_at(board, bits), bits), board)


if __name__ == "__main__":
    unittest.main()
