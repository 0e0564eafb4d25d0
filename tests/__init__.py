"""The tests of tollguess."""
