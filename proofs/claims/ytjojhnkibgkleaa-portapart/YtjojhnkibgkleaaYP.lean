/-
  The reference takes any event in, and is made; conditions as each theorem has them.
-/
import Derived.Test.YtjojhnkibgkleaaYO
import Derived.Test.YtjojhnkibgkleaaYM
import Derived.Test.YtjojhnkibgkleaaYL
import Derived.Test.YtjojhnkibgkleaaYK
import Derived.Test.YtjojhnkibgkleaaYH
set_option linter.unusedSimpArgs false
set_option linter.unusedVariables false
set_option maxRecDepth 8000
namespace Go.Proofs.Ytjojhnkibgkleaa
open Go.RowKit Go.Lib

variable {w : World} {S : Nat → Prop} {y eb ec : Nat} {ea : Option Addr} {bv ov : Value} {Y : Nat → Nat} {V : Nat → Value} {E : Nat → Nat} {P : Pt}
theorem event_r (h : IsRP w S y eb ec ea bv ov Y V E P) (k e N : Int) (hNm : N ≤ 9223372036854775807) (d : ByteArray) (hd : d.size ≤ maxLen) (ra : Option Addr) (rn rc : Nat) : EvR w S y P k e N d ra rn rc := by
  by_cases h1 : k = 1
  · subst h1; exact event1_r h e N d ra rn rc
  by_cases h2 : k = 2
  · subst h2; exact event2_r h e N d hd ra rn rc
  by_cases h3 : k = 3
  · subst h3; exact event3_r h e N d ra rn rc
  by_cases h4 : k = 4
  · subst h4; exact event4_r h e N d ra rn rc
  by_cases h5 : k = 5
  · subst h5; exact event5_r h e N hNm d ra rn rc
  by_cases h6 : k = 6
  · subst h6; exact event6_r h e N d ra rn rc
  by_cases h7 : k = 7
  · subst h7; exact event7_r h e N d ra rn rc
  by_cases h8 : k = 8
  · subst h8; exact event8_r h e N d hd ra rn rc
  exact event_none_r h k e N d ra rn rc ⟨h1, h2, h3, h4, h5, h6, h7, h8⟩

end Go.Proofs.Ytjojhnkibgkleaa
