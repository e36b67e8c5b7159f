import Derived.BigQuiet
import Derived.Deep.QuietTactic
import Derived.Test.YtojgilcdgccojaaGreatDoorRows
import Derived.WalkKit
import Derived.WalkLawsBesides
import Derived.WalkSpells
import Derived.Test.YtojgilcdgccojaaGreatDoorAl
import Derived.Test.YtojgilcdgccojaaGreatDoorMAb
set_option linter.unusedSimpArgs false
set_option maxRecDepth 100000
set_option maxHeartbeats 8000000
namespace Go.Proofs.YtojgilcdgccojaaGreatDoor
open Go.RowKit
theorem Tb {k:IntKind}{a b:Int}(h:a=b):Ending.returned (.int k a)=.returned (.int k b):=by rw[h]
theorem Pm {k:IntKind}{a b:Int}(h:a=b):Value.int k a=.int k b:=by rw[h]
theorem Ag6 {a b:Bool}(h:a=b):Ending.returned (.bool a)=.returned (.bool b):=by rw[h]
end Go.Proofs.YtojgilcdgccojaaGreatDoor
