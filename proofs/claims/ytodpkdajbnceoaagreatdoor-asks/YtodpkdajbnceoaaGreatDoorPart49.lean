import Derived.Test.YtodpkdajbnceoaaGreatDoorRows
import Derived.LaidByTextLater
import Derived.SevenTiedAt
set_option linter.all false
namespace Go.Proofs.YtodpkdajbnceoaaGreatDoor
open Go
def asksLaid : List (String × DataW Unit) := [("horn/syntax.signs", Rows.laid_horn_syntax_signs), ("errors.errorType", Rows.laid_errors_errorType), ("internal/strconv.uint64pow10", Rows.laid_internal_strconv_uint64pow10), ("math/bits.deBruijn32tab", Rows.laid_math_bits_deBruijn32tab), ("math/bits.deBruijn64tab", Rows.laid_math_bits_deBruijn64tab), ("strconv.ErrSyntax", Rows.laid_strconv_ErrSyntax), ("strconv.ErrRange", Rows.laid_strconv_ErrRange), ("unicode/utf8.acceptRanges", Rows.laid_unicode_utf8_acceptRanges)]
def asksKinds : List LaidKind := [.data, .handle, .data, .data, .data, .sentinel, .sentinel, .data]
theorem tieA_k : asksLaid.map (fun x => Tryz.prog.kindOfLater x.1) = asksKinds.map some := by kernel_rfl
theorem tieA_n : varsNamedLaterB Tryz.prog (varsId Tryz.prog) asksLaid = true := by kernel_rfl
theorem tieA_1 : ∀ os tape, (DataW.laidRun Tryz.prog (varsWorld Tryz.prog 400 (varsId Tryz.prog) os tape).memory 8 ((asksLaid.filter fun x => x.2.handleName?.isNone).map (·.1))).map (·.1) = some (asksLaid.filter fun x => x.2.handleName?.isNone) := fun _ _ => by kernel_rfl
end Go.Proofs.YtodpkdajbnceoaaGreatDoor
