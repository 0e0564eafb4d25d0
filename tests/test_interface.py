"""The interface: its names, in their files, with their arguments."""

import importlib
import inspect
import unittest

FUNCTIONS = {
    ("tollguess.nets", "is_name"): ["text"],
    ("tollguess.reach", "reached"): ["net", "gate", "limit"],
    ("tollguess.reach", "least"): ["rows", "name"],
    ("tollguess.reach", "roads_to"): ["rows", "place"],
    ("tollguess.legs", "leg"): ["net", "one", "other", "limit"],
    ("tollguess.guesses", "guess"): ["net", "seen"],
    ("tollguess.bills", "bill"): ["watch"],
    ("tollguess.bills", "total"): ["watch"],
    ("tollguess.plays", "play"): ["text"],
}
NET_METHODS = {
    "gate": ["name", "sees"],
    "road": ["one", "other", "minutes", "toll"],
    "blind": ["name"],
    "mend": ["name"],
    "close": ["number"],
    "reopen": ["number"],
    "gates": [],
    "roads": [],
    "leaving": ["name"],
}
WATCH_METHODS = {
    "saw": ["car", "gate", "time"],
    "seen": ["car"],
    "cars": [],
    "forget": ["car"],
}


class Interface(unittest.TestCase):

    def test_each_function_is_defined_in_its_file(self):
        for (module, name), arguments in FUNCTIONS.items():
            with self.subTest(name=name):
                function = getattr(importlib.import_module(module), name)
                self.assertTrue(inspect.isfunction(function))
                self.assertEqual(function.__module__, module)
                self.assertEqual(list(inspect.signature(function).parameters), arguments)

    def check_class(self, module, name, arguments, methods):
        found = getattr(importlib.import_module(module), name)
        self.assertEqual(found.__module__, module)
        self.assertEqual(list(inspect.signature(found).parameters), arguments)
        for word, told in methods.items():
            with self.subTest(name=word):
                method = found.__dict__[word]
                self.assertTrue(inspect.isfunction(method))
                self.assertEqual(list(inspect.signature(method).parameters)[1:], told)

    def test_a_net_has_each_method_itself(self):
        self.check_class("tollguess.nets", "Net", [], NET_METHODS)

    def test_a_watch_has_each_method_itself(self):
        self.check_class("tollguess.watches", "Watch", ["net"], WATCH_METHODS)


if __name__ == "__main__":
    unittest.main()
