/- What bus' laws are given, opened. No condition. -/
import Derived.Test.YtmplidgafdobkaaUMem
import Derived.Test.YtmplidgafdobkaaLOpen
