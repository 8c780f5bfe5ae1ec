/- Messages: the contracts of the program's functions, gathered: rcCheck_any (Mv), mPut_any (Mw), mGet_any (Mf), mRefuse_any, mAnswer_any (Mra). -/
import Derived.Test.YtimbcombhdgjiaaDoorMl
import Derived.Test.YtimbcombhdgjiaaDoorMh
import Derived.Test.YtimbcombhdgjiaaDoorMra
import Derived.Test.YtimbcombhdgjiaaDoorMw
import Derived.Test.YtimbcombhdgjiaaDoorMf
