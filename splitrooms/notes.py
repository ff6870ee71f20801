"""Stores written as texts, and read again."""

from splitrooms.errors import BadBound, BadName, NoStore
from splitrooms.stores import Store

BOUND_WORD = "bound "
FIGURES = 60


def written(store):
    """The text that writes the store."""
    rows = [row_of(bits, things) for bits, things in store.rooms()]
    return "\n".join([f"{BOUND_WORD}{store.bound}", *rows])


def row_of(bits, things):
    """The row that writes a room."""
    words = [f" {name}={value}" for name, value in things]
    return f"{bits}:" + "".join(words)


def read(text):
    """The store that the text writes."""
    head, *rows = text.split("\n")
    try:
        store = Store(number_in(head.removeprefix(BOUND_WORD)))
        for row in rows:
            for name, value in things_in(row):
                store.put(name, value)
    except (BadBound, BadName):
        raise NoStore("a name or the bound is out of range") from None
    # The rooms hang on the things alone, so this refuses whatever stands elsewhere or otherwise
    # than it is written: bits, order, blanks, and words that were passed over above.
    if written(store) != text:
        raise NoStore("not just what is written of a store")
    return store


def things_in(row):
    """The things that a row writes."""
    # What stands ahead of the first blank are the bits and the colon, which things do not hang on.
    words = row.split(" ")[1:]
    parts = [word.partition("=") for word in words]
    return [(number_in(name), number_in(value)) for name, _, value in parts]


def number_in(word):
    """The whole number that the word writes, of up to sixty figures."""
    figures = word.removeprefix("-")
    # What int cannot read, and what is too long, is refused here; what it reads but Python does not
    # write so (a nought ahead, other digits) by the comparison in read.
    if not figures.isdecimal() or len(figures) > FIGURES:
        raise NoStore("not a whole number of up to sixty figures")
    return int(word)
