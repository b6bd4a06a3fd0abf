/- Package radio: all its contracts. -/
import Derived.Test.YtcnmknhjmflinaaRdX6
