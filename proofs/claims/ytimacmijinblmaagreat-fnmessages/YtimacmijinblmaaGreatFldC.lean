/- The table of fields. -/
import Derived.Test.YtimacmijinblmaaGreatProg
import Derived.Test.YtimacmijinblmaaGreatKit
namespace Go.Proofs.YtimacmijinblmaaGreat
open Go.RowKit


set_option linter.unusedVariables false
set_option linter.unusedSimpArgs false

/-- The table of fields. -/
def fieldsC : Array Value := #[.func (.func 48) #[] #[], .func (.func 50) #[] #[], .func (.func 52) #[] #[], .func (.func 53) #[] #[], .func (.func 54) #[] #[], .func (.func 55) #[] #[], .func (.func 56) #[] #[], .func (.func 58) #[] #[], .func (.func 60) #[] #[], .func (.func 61) #[] #[], .func (.func 62) #[] #[], .func (.func 63) #[] #[], .func (.func 64) #[] #[], .func (.func 65) #[] #[], .func (.func 66) #[] #[], .func (.func 68) #[] #[], .func (.func 70) #[] #[], .func (.func 71) #[] #[], .func (.func 72) #[] #[], .func (.func 74) #[] #[], .func (.func 76) #[] #[], .func (.func 79) #[] #[], .func (.func 81) #[] #[], .func (.func 82) #[] #[]]
end Go.Proofs.YtimacmijinblmaaGreat
