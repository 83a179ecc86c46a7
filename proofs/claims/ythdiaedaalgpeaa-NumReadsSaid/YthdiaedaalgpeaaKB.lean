/- What num's texts share. -/
import Derived.Test.YthdiaedaalgpeaaBy
import Derived.Test.YthdiaedaalgpeaaKW
import Derived.Test.YthdiaedaalgpeaaKR
import Derived.Test.YthdiaedaalgpeaaKG
import Derived.Test.YthdiaedaalgpeaaKH
import Derived.Test.YthdiaedaalgpeaaKM
