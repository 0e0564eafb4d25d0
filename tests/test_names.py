"""Point 3: what is a name."""

import unittest

from tollguess.nets import is_name

# Capitals, blanks, line feeds, an underscore, signs around the small ones and the
# figures, and small letters and figures of other scripts.
BARRED = [
    "A", "Z", " ", "\n", "\r", "\t", "\0", "_", "-", ".", "`", "{", "/", ":", "@", "[",
    "\u00e9", "\u00df", "\u00aa", "\u0131", "\u03b1", "\u0430", "\uff41", "\u0660",
    "\u0967", "\u00b2", "\u2460", "\uff11", "\u0301", "\u200b", "\u00a0", "\U0001d41a",
    "\U0001d7ce"]


class Names(unittest.TestCase):

    def test_small_signs_and_figures(self):
        for text in ("a", "z", "a0", "a9", "z1z", "gate", "abcdefgh", "a1234567", "ab12cd34"):
            with self.subTest(text=text):
                self.assertIs(is_name(text), True)

    def test_each_small_sign_stands_at_each_place(self):
        for sign in "abcdefghijklmnopqrstuvwxyz":
            for text in (sign, "a" + sign, "aaa" + sign + "aaaa", "aaaaaaa" + sign):
                with self.subTest(text=text):
                    self.assertIs(is_name(text), True)

    def test_each_figure_stands_behind_but_not_first(self):
        for figure in "0123456789":
            with self.subTest(figure=figure):
                self.assertIs(is_name("a" + figure), True)
                self.assertIs(is_name("aaa" + figure + "aaaa"), True)
                self.assertIs(is_name("aaaaaaa" + figure), True)
                self.assertIs(is_name(figure), False)
                self.assertIs(is_name(figure + "a"), False)

    def test_lengths(self):
        self.assertIs(is_name(""), False)
        self.assertIs(is_name("a"), True)
        self.assertIs(is_name("a" * 7), True)
        self.assertIs(is_name("a" * 8), True)
        self.assertIs(is_name("a" * 9), False)
        self.assertIs(is_name("a" * 10), False)
        self.assertIs(is_name("a" * 100000), False)

    def test_barred_signs_at_each_place(self):
        for sign in BARRED:
            for text in (sign, sign + "ab", "a" + sign + "b", "ab" + sign,
                         sign + "aaaaaaa", "aaaaaaa" + sign):
                with self.subTest(text=text):
                    self.assertIs(is_name(text), False)

    def test_several_small_signs_in_turn_are_no_single_sign(self):
        # A part of the row of small signs is a name only if each sign is one.
        self.assertIs(is_name("abc"), True)
        self.assertIs(is_name("ab c"), False)


if __name__ == "__main__":
    unittest.main()
