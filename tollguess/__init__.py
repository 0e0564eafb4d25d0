"""Tollguess: what a car owes by the gates that saw it."""
