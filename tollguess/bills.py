"""What the cars of a watch owe."""

from tollguess.guesses import guess


def bill(watch):
    """Tell the pairs (car, toll), by cars; None instead of a toll where no way fits."""
    rows = []
    for car in watch.cars():
        told = guess(watch.net, watch.seen(car))
        if told[0] == "way":
            rows.append((car, told[1]))
        else:
            rows.append((car, None))
    return rows


def total(watch):
    """Tell all tolls of the bill together."""
    return sum([toll for car, toll in bill(watch) if toll is not None])
