"""Splitrooms: rooms found by the first signs of a mixed name."""
