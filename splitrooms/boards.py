"""Boards: at each place of a board stand the bits of the room to which the place leads."""


def doubled(board):
    """The board with each of its texts twice, side by side."""
    return [bits for bits in board for _ in range(2)]


def can_halve(board):
    """Whether the board has more than one place, and the two texts of each pair of places are alike."""
    return len(board) > 1 and board[::2] == board[1::2]


def halved(board):
    """The board with one text of each pair of places."""
    return board[::2]


def parted_at(board, bits):
    """The board with the room of these bits parted."""
    zeros_left = board.count(bits) // 2
    told = []
    for text in board:
        if text != bits:
            told.append(text)
        elif zeros_left > 0:
            told.append(bits + "0")
            zeros_left -= 1
        else:
            told.append(bits + "1")
    return told


def joined_at(board, bits):
    """The board with the two rooms joined whose bits are these and one sign more."""
    halves = (bits + "0", bits + "1")
    return [bits if text in halves else text for text in board]
