"""The refusals of the program."""


class RoomError(ValueError):
    """Any refusal."""


class BadName(RoomError):
    """What was handed in as a name is none."""


class BadBound(RoomError):
    """What was handed in as a bound is none."""


class NoThing(RoomError):
    """The name has no value that could be taken."""


class NoStore(RoomError):
    """The text is not what is written of a store."""
