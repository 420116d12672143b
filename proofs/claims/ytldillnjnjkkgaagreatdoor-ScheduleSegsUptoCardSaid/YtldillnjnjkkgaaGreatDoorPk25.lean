/- No words of its own: what stood here stands in the text before it. -/
import Derived.Test.YtldillnjnjkkgaaGreatDoorPk24
