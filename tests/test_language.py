"""The package's files: their sizes, signs and imports."""

import ast
import pathlib
import unittest

FOLDER = pathlib.Path(__file__).resolve().parent.parent / "tollguess"
LIBRARY = {"heapq": {"heappush", "heappop"}}


class Files(unittest.TestCase):

    def setUp(self):
        self.texts = {path.name: path.read_bytes() for path in sorted(FOLDER.glob("*.py"))}

    def test_the_folder_contains_python_files_alone(self):
        others = [
            path.name for path in FOLDER.iterdir()
            if path.suffix != ".py" and path.name != "__pycache__"]
        self.assertEqual(others, [])
        self.assertIn("__init__.py", self.texts)

    def test_signs_and_lines(self):
        for name, text in self.texts.items():
            with self.subTest(name=name):
                self.assertEqual({sign for sign in text if sign != 10 and not 32 <= sign <= 126}, set())
                lines = text.split(b"\n")
                self.assertLess(len(lines), 400)
                self.assertLessEqual(max(len(line) for line in lines), 120)

    def test_functions_are_small(self):
        for name, text in self.texts.items():
            for node in ast.walk(ast.parse(text)):
                if isinstance(node, ast.FunctionDef):
                    with self.subTest(name=name, function=node.name):
                        self.assertLessEqual(node.end_lineno - node.lineno + 1, 40)

    def test_imports_name_the_file_that_defines(self):
        for name, text in self.texts.items():
            for node in ast.walk(ast.parse(text)):
                self.assertNotIsInstance(node, ast.Import)
                if isinstance(node, ast.ImportFrom):
                    with self.subTest(name=name, module=node.module):
                        self.check_import(node)

    def check_import(self, node):
        words = {alias.name for alias in node.names}
        if node.module in LIBRARY:
            self.assertLessEqual(words, LIBRARY[node.module])
            return
        package, module = node.module.split(".")
        self.assertEqual(package, "tollguess")
        defined = {
            part.name for part in ast.parse(self.texts[module + ".py"]).body
            if isinstance(part, (ast.FunctionDef, ast.ClassDef))}
        self.assertLessEqual(words, defined)


if __name__ == "__main__":
    unittest.main()
