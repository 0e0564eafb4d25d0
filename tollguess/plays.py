"""Rows of words, done at a net and a watch of their own."""

from tollguess.bills import bill
from tollguess.errors import TollError
from tollguess.guesses import guess
from tollguess.nets import Net
from tollguess.watches import Watch

FIGURES = "0123456789"
MOST_FIGURES = 10
DONE = "ok"
NO_ROW = "no row"

# What stands at a place of a row: any word, "sees" or "blind", or a number. Words
# that are no names are left to the net and the watch, which refuse them.
WORD = "word"
SIGHT = "sight"
NUMBER = "number"


def play(text):
    """Tell the answers to the rows of a text."""
    net = Net()
    watch = Watch(net)
    answers = []
    for row in text.split("\n"):
        words = [word for word in row.split(" ") if word != ""]
        if len(words) > 0:
            answers.append(_answer(net, watch, words))
    return answers


def _gate(net, watch, name, sight):
    net.gate(name, sight == "sees")
    return DONE


def _blind(net, watch, name):
    net.blind(name)
    return DONE


def _mend(net, watch, name):
    net.mend(name)
    return DONE


def _road(net, watch, one, other, minutes, toll):
    return str(net.road(one, other, minutes, toll))


def _close(net, watch, number):
    net.close(number)
    return DONE


def _reopen(net, watch, number):
    net.reopen(number)
    return DONE


def _saw(net, watch, car, gate, time):
    if watch.saw(car, gate, time):
        return "new"
    return "known"


def _forget(net, watch, car):
    watch.forget(car)
    return DONE


def _guess(net, watch, car):
    told = guess(net, watch.seen(car))
    if told[0] == "none":
        return f"none from {told[1]}"
    kind, toll, roads, passed = told
    if len(roads) == 0:
        return f"{toll} by none"
    numbers = " ".join([str(number) for number in roads])
    return f"{toll} by {numbers}"


def _bill(net, watch):
    parts = []
    for car, toll in bill(watch):
        owed = "none" if toll is None else str(toll)
        parts.append(f"{car} {owed}")
    if len(parts) == 0:
        return "nothing"
    return ", ".join(parts)


SHAPES = {
    "gate": (WORD, SIGHT),
    "blind": (WORD,),
    "mend": (WORD,),
    "road": (WORD, WORD, NUMBER, NUMBER),
    "close": (NUMBER,),
    "reopen": (NUMBER,),
    "saw": (WORD, WORD, NUMBER),
    "forget": (WORD,),
    "guess": (WORD,),
    "bill": (),
}

DEEDS = {
    "gate": _gate,
    "blind": _blind,
    "mend": _mend,
    "road": _road,
    "close": _close,
    "reopen": _reopen,
    "saw": _saw,
    "forget": _forget,
    "guess": _guess,
    "bill": _bill,
}


def _answer(net, watch, words):
    """Do a row at the net and the watch, and tell the answer."""
    first = words[0]
    if first not in SHAPES:
        return NO_ROW
    values = _values(words[1:], SHAPES[first])
    if values is None:
        return NO_ROW
    deed = DEEDS[first]
    try:
        return deed(net, watch, *values)
    except TollError as refusal:
        return "refused: " + type(refusal).__name__


def _values(words, shape):
    """Tell what the words behind the first one stand for, or None where they do not fit."""
    if len(words) != len(shape):
        return None
    values = []
    for word, kind in zip(words, shape):
        if kind == SIGHT and word not in ("sees", "blind"):
            return None
        if kind == NUMBER and not _is_number(word):
            return None
        values.append(int(word) if kind == NUMBER else word)
    return values


def _is_number(word):
    """Tell whether a word is up to ten figures, without noughts ahead but 0 itself."""
    if not 1 <= len(word) <= MOST_FIGURES:
        return False
    if word[0] == "0" and word != "0":
        return False
    return all([sign in FIGURES for sign in word])
