"""Points 15 and 16: rows of words and their answers."""

import unittest

from tollguess.plays import play

START = """
gate a sees
gate b blind
gate c sees
road a b 1 3
road b c 1 4
road a c 9 2
"""
START_ANSWERS = ["ok", "ok", "ok", "0", "1", "2"]


class Plays(unittest.TestCase):

    def check(self, *rows):
        """Each row, a pair (row, answer), behind START."""
        text = START + "\n".join(row for row, answer in rows)
        self.assertEqual(play(text), START_ANSWERS + [answer for row, answer in rows])


class Rows(Plays):

    def test_an_empty_text(self):
        self.assertEqual(play(""), [])

    def test_rows_without_words_are_passed_over(self):
        self.assertEqual(play("\n"), [])
        self.assertEqual(play(" "), [])
        self.assertEqual(play("\n  \n\n   "), [])
        self.assertEqual(play("\n\nbill\n   \n\nbill\n"), ["nothing", "nothing"])

    def test_the_last_line_feed_may_be_missing(self):
        self.assertEqual(play("gate a sees"), ["ok"])
        self.assertEqual(play("gate a sees\n"), ["ok"])

    def test_the_answers_are_texts_in_a_list(self):
        answers = play(START + "saw car a 1\nguess car\nbill\nx")
        self.assertIs(type(answers), list)
        self.assertEqual({type(answer) for answer in answers}, {str})

    def test_several_blanks(self):
        self.assertEqual(
            play("  gate   a    sees\ngate b  blind   \n   road  a b   1    2  \n saw  car a  5 \n  bill "),
            ["ok", "ok", "0", "new", "car 0"])

    def test_a_tab_is_no_blank(self):
        self.check(
            ("gate\td sees", "no row"), ("gate d\tsees", "no row"), ("gate d sees\t", "no row"),
            ("\tgate d sees", "no row"), ("\t", "no row"), (" \t ", "no row"),
            ("gate d\t sees", "refused: NoName"), ("close 0\t", "no row"), ("bill\t", "no row"),
            ("guess\tcar", "no row"), ("guess \tcar", "refused: NoCar"), ("gate d sees", "ok"))

    def test_other_signs_part_neither_words_nor_rows(self):
        for sign in ("\r", "\v", "\f", "\x1c", "\x1d", "\x1e", "\x85", "\xa0", "\u2003",
                     "\u2028", "\u2029", "\u3000", "\0", ",", ";"):
            with self.subTest(sign=sign):
                self.assertEqual(play(f"bill{sign}bill"), ["no row"])
                self.assertEqual(play(f"gate{sign}a{sign}sees"), ["no row"])
                self.assertEqual(play(sign), ["no row"])
                self.assertEqual(play(f"bill{sign}\nbill"), ["no row", "nothing"])

    def test_words_that_are_none_of_these(self):
        for row in ("x", "Gate d sees", "GATE d sees", "gates d sees", "gat d sees", "BILL",
                    "bills", "seen car", "total", "cars", "leaving a", "ok", "#", "0", "-",
                    "name", "no row", "None", "play", "_gate d sees", "word"):
            with self.subTest(row=row):
                self.check((row, "no row"))

    def test_a_word_too_few_or_too_many(self):
        for row in ("gate d sees", "blind a", "mend b", "road a b 1 2", "close 0", "reopen 0",
                    "saw car a 5", "forget car", "guess car", "bill"):
            words = row.split()
            with self.subTest(row=row):
                if len(words) > 1:
                    self.check((" ".join(words[:-1]), "no row"))
                    self.check((words[0], "no row"))
                self.check((row + " 1", "no row"))
                self.check((row + " a", "no row"))
                self.check((row + " " + row, "no row"))

    def test_sees_or_blind_misspelt(self):
        for word in ("see", "seen", "Sees", "SEES", "sees.", "blinds", "blin", "Blind", "true",
                     "True", "1", "0", "d", "sight"):
            with self.subTest(word=word):
                self.check((f"gate d {word}", "no row"), ("blind d", "refused: NoGate"))

    def test_no_row_changes_nothing(self):
        self.check(
            ("close 00", "no row"), ("gate d seen", "no row"), ("saw car a 05", "no row"),
            ("road a b 1", "no row"), ("close 0", "ok"), ("gate d sees", "ok"),
            ("saw car a 5", "new"), ("road a b 1 1", "3"))

    def test_no_row_comes_ahead_of_refusals(self):
        self.check(
            ("gate A seen", "no row"), ("saw Car z -1", "no row"), ("road x x 01 1", "no row"),
            ("close 0 0", "no row"), ("guess", "no row"))

    def test_many_rows(self):
        rows = ["gate a sees", "gate b sees", "road a b 1 1", "road b a 1 2"]
        rows += [f"saw car {'ab'[k % 2]} {k}\n\n   \n" for k in range(1000)]
        rows += ["guess car", "x", "bill"]
        answers = play("\n".join(rows))
        self.assertEqual(len(answers), 1007)
        self.assertEqual(answers[:4], ["ok", "ok", "0", "1"])
        self.assertEqual(answers[4:1004], ["new"] * 1000)
        numbers = " ".join("01"[k % 2] for k in range(999))
        self.assertEqual(answers[1004:], [f"1498 by {numbers}", "no row", "car 1498"])


class Deeds(Plays):

    def test_gates(self):
        self.check(
            ("gate d sees", "ok"), ("gate e blind", "ok"), ("saw car d 1", "new"),
            ("saw car e 1", "refused: Blind"), ("gate eightsig sees", "ok"))

    def test_a_gate_may_have_the_name_of_a_word(self):
        self.assertEqual(
            play("gate gate sees\ngate sees blind\ngate blind sees\nblind blind\nmend sees\n"
                 "road gate sees 1 2\nsaw bill sees 3\nsaw none gate 2\nsaw none sees 3\nbill\n"
                 "guess none\nforget bill\nbill"),
            ["ok", "ok", "ok", "ok", "ok", "0", "new", "new", "new", "bill 0, none 2",
             "2 by 0", "ok", "none 2"])

    def test_blind_and_mend(self):
        self.check(
            ("blind a", "ok"), ("saw car a 1", "refused: Blind"), ("mend a", "ok"),
            ("saw car a 1", "new"), ("mend b", "ok"), ("saw car b 2", "new"))

    def test_road_numbers_go_on(self):
        self.check(("road c a 1 0", "3"), ("road c a 1 0", "4"), ("close 4", "ok"), ("road a b 1 0", "5"))

    def test_close_and_reopen(self):
        self.check(
            ("saw car a 0", "new"), ("saw car c 9", "new"), ("guess car", "2 by 2"),
            ("close 2", "ok"), ("guess car", "7 by 0 1"), ("reopen 2", "ok"), ("guess car", "2 by 2"))

    def test_saw_and_forget(self):
        self.check(
            ("saw car a 5", "new"), ("saw car a 5", "known"), ("saw car a 6", "new"),
            ("saw bus a 5", "new"), ("forget car", "ok"), ("saw car a 5", "new"),
            ("saw bus a 5", "known"))

    def test_guess(self):
        self.check(
            ("guess car", "refused: NoCar"), ("saw car c 15", "new"), ("guess car", "0 by none"),
            ("saw car a 10", "new"), ("guess car", "7 by 0 1"), ("saw car a 3", "new"),
            ("guess car", "none from 0"), ("road c a 1 5", "3"), ("guess car", "none from 0"),
            ("saw car c 5", "new"), ("guess car", "19 by 0 1 3 0 1"), ("saw car a 15", "new"),
            ("guess car", "none from 2"), ("forget car", "ok"), ("guess car", "refused: NoCar"))

    def test_a_toll_of_0_by_a_road(self):
        self.check(
            ("road a c 1 0", "3"), ("saw car a 0", "new"), ("saw car c 1", "new"),
            ("guess car", "0 by 3"), ("bill", "car 0"))

    def test_bill(self):
        self.check(
            ("bill", "nothing"), ("saw car a 10", "new"), ("bill", "car 0"),
            ("saw car c 19", "new"), ("bill", "car 2"), ("saw bus c 1", "new"),
            ("saw bus a 2", "new"), ("bill", "bus none, car 2"), ("saw ape a 0", "new"),
            ("saw ape c 2", "new"), ("bill", "ape 7, bus none, car 2"), ("mend b", "ok"),
            ("bill", "ape none, bus none, car 2"), ("forget ape", "ok"), ("forget car", "ok"),
            ("bill", "bus none"), ("forget bus", "ok"), ("bill", "nothing"))


class Refusals(Plays):

    def test_no_name(self):
        for name in ("A", "1a", "ninesigns", "a_b", "-", "sees?", "\u00e9", "5", "0", "05"):
            with self.subTest(name=name):
                self.check(
                    (f"gate {name} sees", "refused: NoName"), (f"gate {name} blind", "refused: NoName"),
                    (f"saw {name} a 1", "refused: NoName"))

    def test_a_number_where_a_name_stands(self):
        self.check(
            ("gate 5 sees", "refused: NoName"), ("blind 5", "refused: NoGate"),
            ("mend 5", "refused: NoGate"), ("road 5 b 1 2", "refused: NoGate"),
            ("road a 5 1 2", "refused: NoGate"), ("saw 5 a 1", "refused: NoName"),
            ("saw car 5 1", "refused: NoGate"), ("forget 5", "refused: NoCar"),
            ("guess 5", "refused: NoCar"))

    def test_a_name_where_a_number_stands(self):
        self.check(
            ("road a b c 2", "no row"), ("road a b 1 c", "no row"), ("close a", "no row"),
            ("reopen a", "no row"), ("saw car a b", "no row"))

    def test_same_gate(self):
        self.check(
            ("gate a sees", "refused: SameGate"), ("gate b sees", "refused: SameGate"),
            ("road a a 1 1", "refused: SameGate"))

    def test_no_gate(self):
        self.check(
            ("blind x", "refused: NoGate"), ("mend x", "refused: NoGate"),
            ("road x b 1 1", "refused: NoGate"), ("road a x 1 1", "refused: NoGate"),
            ("saw car x 1", "refused: NoGate"), ("saw car X 1", "refused: NoGate"))

    def test_no_number(self):
        self.check(
            ("road a b 0 1", "refused: NoNumber"), ("road a b 1000001 1", "refused: NoNumber"),
            ("road a b 1 1000001", "refused: NoNumber"),
            ("road a b 9999999999 0", "refused: NoNumber"), ("road a b 1000000 1000000", "3"),
            ("road a b 1 0", "4"))

    def test_no_road(self):
        self.check(
            ("close 3", "refused: NoRoad"), ("reopen 3", "refused: NoRoad"),
            ("close 9999999999", "refused: NoRoad"), ("reopen 200", "refused: NoRoad"))

    def test_already(self):
        self.check(
            ("blind b", "refused: Already"), ("mend a", "refused: Already"),
            ("reopen 0", "refused: Already"), ("close 0", "ok"), ("close 0", "refused: Already"))

    def test_no_time(self):
        self.check(
            ("saw car a 1000000001", "refused: NoTime"), ("saw car a 9999999999", "refused: NoTime"),
            ("guess car", "refused: NoCar"), ("saw car a 1000000000", "new"), ("saw car a 0", "new"))

    def test_blind(self):
        self.check(
            ("saw car b 1", "refused: Blind"), ("saw car a 1", "new"), ("blind a", "ok"),
            ("saw car a 1", "refused: Blind"), ("guess car", "0 by none"))

    def test_no_car(self):
        self.check(
            ("guess car", "refused: NoCar"), ("forget car", "refused: NoCar"),
            ("guess A", "refused: NoCar"), ("forget a", "refused: NoCar"))

    def test_the_first_that_is_due(self):
        self.check(
            ("saw Car x 9999999999", "refused: NoName"), ("saw car x 9999999999", "refused: NoGate"),
            ("saw car b 9999999999", "refused: Blind"), ("road x x 0 0", "refused: NoGate"),
            ("road a a 0 0", "refused: SameGate"))

    def test_what_is_refused_changes_nothing(self):
        self.check(
            ("saw car a 1000000001", "refused: NoTime"), ("bill", "nothing"),
            ("road a b 0 1", "refused: NoNumber"), ("road a b 1 1", "3"))

    def test_the_61st_gate(self):
        rows = [f"gate g{k} blind" for k in range(60)]
        answers = play("\n".join(rows + ["gate g60 sees", "gate G sees", "gate g0 sees", "mend g59"]))
        self.assertEqual(
            answers, ["ok"] * 60 + ["refused: FullNet", "refused: NoName", "refused: SameGate", "ok"])

    def test_the_201st_road(self):
        rows = ["gate a sees", "gate b sees"] + ["road a b 1 0"] * 200
        answers = play("\n".join(rows + ["road b a 1 0", "road b a 0 0", "close 199", "close 200"]))
        self.assertEqual(answers[2:202], [str(k) for k in range(200)])
        self.assertEqual(answers[202:], ["refused: FullNet", "refused: NoNumber", "ok", "refused: NoRoad"])


class Numbers(Plays):

    def each(self, word, answers):
        """A word at each place of a number: road's two, close, reopen, saw."""
        rows = [f"road a c {word} 1", f"road a c 1 {word}", f"close {word}", f"reopen {word}",
                f"saw car a {word}"]
        with self.subTest(word=word):
            self.check(*zip(rows, answers))

    def test_figures(self):
        self.each("0", ["refused: NoNumber", "3", "ok", "ok", "new"])
        self.each("2", ["3", "4", "ok", "ok", "new"])
        self.each("10", ["3", "4", "refused: NoRoad", "refused: NoRoad", "new"])
        self.each("1000000", ["3", "4", "refused: NoRoad", "refused: NoRoad", "new"])

    def test_ten_and_eleven_figures(self):
        refused = ["refused: NoNumber"] * 2 + ["refused: NoRoad"] * 2
        self.each("1000000000", refused + ["new"])
        self.each("9999999999", refused + ["refused: NoTime"])
        self.each("10000000000", ["no row"] * 5)
        self.each("99999999999", ["no row"] * 5)
        self.each("1" * 5000, ["no row"] * 5)

    def test_noughts_ahead(self):
        for word in ("00", "01", "007", "0000000000", "0000000001", "00000000001", "0" * 5000):
            self.each(word, ["no row"] * 5)

    def test_signs_and_others(self):
        for word in ("-1", "+1", "-0", "+0", "1.0", "1.", "1e3", "1_0", "1,0", "0x1", "0b1", "1a",
                     "a1", "--1", "None", "True", "''", "1\t", "\t1", "1\r", "\v1"):
            self.each(word, ["no row"] * 5)

    def test_figures_beyond_ascii(self):
        for word in ("\u0661", "\u0967", "\uff11", "\u00b2", "\u2460", "1\u0661", "\u06611",
                     "\U0001d7cf", "\u2167", "1\u0301", "1\u00a0", "\u30001"):
            self.each(word, ["no row"] * 5)


class TwoPlays(unittest.TestCase):

    def test_each_stands_by_itself(self):
        first = play(START + "saw car a 1\nbill")
        self.assertEqual(play("bill"), ["nothing"])
        self.assertEqual(play("close 0\nblind a\nguess car"),
                         ["refused: NoRoad", "refused: NoGate", "refused: NoCar"])
        self.assertEqual(play(START + "saw car a 1\nbill"), first)

    def test_a_changed_list_of_answers_changes_none_told_later(self):
        first = play(START)
        first.clear()
        second = play(START)
        self.assertEqual(second, START_ANSWERS)
        second.append("x")
        self.assertEqual(play(START), START_ANSWERS)
        self.assertEqual(first, [])


if __name__ == "__main__":
    unittest.main()
