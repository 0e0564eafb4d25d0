"""The interface: its names, in their files, with their arguments."""

import importlib
import inspect
import unittest

FUNCTIONS = {
    ("tollguess.nets", "is_name"): ["text"],
    ("tollguess.reach", "reached"): ["net", "gate", "limit"],
    ("tollguess.reach", "least"): ["rows", "name"],
    ("tollguess.reach", "roads_to"): ["rows", "place"],
    ("tollguess.legs", "leg"): ["net", "one", "other", "limit"],
}
NET_METHODS = {
    "gate": ["name", "sees"],
    "road": ["one", "other", "minutes", "toll"],
    "blind": ["name"],
    "mend": ["name"],
    "close": ["number"],
    "reopen": ["number"],
    "gates": [],
    "roads": [],
    "leaving": ["name"],
}


class Interface(unittest.TestCase):

    def test_each_function_is_defined_in_its_file(self):
        for (module, name), arguments in FUNCTIONS.items():
            with self.subTest(name=name):
                function = getattr(importlib.import_module(module), name)
                self.assertTrue(inspect.isfunction(function))
                self.assertEqual(function.__module__, module)
                self.assertEqual(list(inspect.signature(function).parameters), arguments)

    def test_a_net_has_each_method_itself(self):
        net_class = importlib.import_module("tollguess.nets").Net
        self.assertEqual(net_class.__module__, "tollguess.nets")
        self.assertEqual(list(inspect.signature(net_class).parameters), [])
        for name, arguments in NET_METHODS.items():
            with self.subTest(name=name):
                method = net_class.__dict__[name]
                self.assertTrue(inspect.isfunction(method))
                self.assertEqual(list(inspect.signature(method).parameters)[1:], arguments)


if __name__ == "__main__":
    unittest.main()
