/- The premises of stage 14, proved: what the packages and the document's layers tell; package bbf. -/
import Derived.Test.YtepglkimkchpiaaVe
import Derived.Test.YtepglkimkchpiaaRl
import Derived.Test.YtepglkimkchpiaaOp
import Derived.Test.YtepglkimkchpiaaRj
namespace Go.Proofs.Ytepglkimkchpiaa
open Go.RowKit Go.PlainAid Go.Lib

theorem old_p : OldP := ⟨is_any, kbch_any, field_any, isRef_any, kbRef_any, fdRef_any, refEnc_any, refDec_any, encode_any⟩
theorem bbf_p : BbfP := ⟨pack_any old_p, unpack_any old_p bbh_p⟩
end Go.Proofs.Ytepglkimkchpiaa
