/-
  Numbers as texts: Itoa of the library and of the reference's base; conditions as each theorem has them.
-/
import Derived.Test.YtiejandeoopiiaaGreatDoorCK
set_option linter.unusedSimpArgs false
set_option linter.unusedVariables false
namespace Go.Proofs.YtiejandeoopiiaaGreatDoor
open Go.RowKit

theorem strN_dec (n : Nat) : (⟨(Lib.decDigits n).toArray⟩ : ByteArray) = strN (dec n) := by
  apply byt_inj
  rw [byt_strN _ (dec_lt n), byt_mk]
  rfl
/-- strconv.Itoa of a number that is not below 0. -/
theorem itoa_at (n : Nat) (w : World) (hn : n ≤ 1000000) (ht : Lib.TabIs Tryz.prog w "internal/strconv.uint64pow10" .u64 Lib.pow10Tab) : Calls Tryz.prog 47 #[.int .i64 (n : Int)] w fun e w' => e = .returned (.string (strN (dec n))) ∧ Below w.heap.size w w' := by
  refine (Tryz.strconv_Itoa (n : Int) (by omega) (by omega) w ht).mono ?_
  rintro e w' ⟨rfl, k, os, rfl⟩
  have e1 : Lib.itoa (n : Int) = Lib.decDigits n := by unfold Lib.itoa; rw [if_neg (by omega)]; simp
  rw [e1, strN_dec]
  refine ⟨rfl, ?_⟩
  refine ⟨rfl, rfl, rfl, ?_, fun i hi => ?_⟩
  · show w.heap.size ≤ (w.heap ++ os).size
    simp
  · show (w.heap ++ os)[i]? = w.heap[i]?
    rw [Array.getElem?_append_left hi]
set_option maxRecDepth 100000 in
set_option maxHeartbeats 2000000 in
theorem ritoa_at (m : Nat) (w : World) (hm : m ≤ 65535) : Calls Tryz.prog 33 #[.int .i64 (m : Int)] w fun e w' => e = .returned (.string (strN (dec m))) ∧ Below w.heap.size w w' := by
  by_cases h0 : m = 0
  · subst h0
    go_enter Tryz.func33, Tryz.ntmps33
    go_wp2_with fail
    go_ret
    exact ⟨by rw [dec_small (by omega)]; rfl, Below.refl _ _⟩
  have hb : ((m : Int) == 0) = false := by simp; omega
  have hd : decide ((m : Int) < 0) = false := decide_eq_false (by omega)
  have H0 := hide h0
  clear h0
  go_enter Tryz.func33, Tryz.ntmps33
  go_wp2_with fail
  clear hb
  go_loopw [0, 3] (fun nv sv wr => ∃ (n : Nat) (s : List Nat), nv = .int .i64 n ∧ sv = .string (strN s) ∧ n ≤ 65535 ∧ Hid ((if n = 0 then [] else dec n) ++ s = dec m ∧ Below w.heap.size w wr)) (fun nv _ _ => (intOf nv).toNat)
  case atStart => exact ⟨m, [], rfl, rfl, hm, by rw [if_neg H0.out, List.append_nil], Below.refl _ _⟩
  case round =>
    obtain ⟨n, s, rfl, rfl, hn, HI⟩ := hrel
    by_cases hz : n = 0
    · subst hz
      obtain ⟨i1, i3⟩ := HI.out
      have HS : Hid (s = dec m) := by have h2 : s = dec m := by simpa using i1
                                      exact h2
      have B := hide i3
      clear i1 i3
      go_wp2_with fail
      go_ret
      exact ⟨by rw [HS.out]; rfl, B.out⟩
    · have q1 : ((n : Int) == 0) = false := by simp; omega
      have q2 : ((n : Int) != 0) = true := by simp; omega
      obtain ⟨i1, i3⟩ := HI.out
      have q3 : decide ((n : Int) % 10 < 0) = false := decide_eq_false (by omega)
      have B := hide i3
      have I1 := hide i1
      have i2 : s.length ≤ 5 := by
        have h4 := dec_len (n := m) (by omega)
        rw [← i1, List.length_append] at h4; omega
      have I2 := hide i2
      clear i1 i2 i3 hd
      obtain ⟨T, hT⟩ : ∃ T, T = strN [48 + n % 10] := ⟨_, rfl⟩
      have hTs : T.size = 1 := by rw [hT, strN_size]; rfl
      have hstr : (convert 78 9 (.slice (some ⟨wr.heap.size, 0, none⟩) 1 1)).run Tryz.prog (wr.alloc (.cells #[.int .u8 (48 + (n : Int) % 10)] 5)) = .ok (.string T) (wr.alloc (.cells #[.int .u8 (48 + (n : Int) % 10)] 5)) := by
        rw [hT]
        refine run_str _ wr.heap.size 0 1 1 [48 + n % 10] rfl ?_
        intro i hi
        have : i = 0 := by omega
        subst this
        rw [World.cell?_alloc_at _ _ _ _ (by simp)]
        show some (Value.int .u8 (48 + (n : Int) % 10)) = some (Value.int .u8 ((48 + n % 10 : Nat) : Int))
        rw [show (48 + (n : Int) % 10) = ((48 + n % 10 : Nat) : Int) by omega]
      have hss : (strN s).size = s.length := strN_size s
      have hno : ¬ (9223372036854775807 < T.size + (strN s).size) := by have := I2.out; omega
      have HT := hide hT
      clear hT hss
      go_wp2_with fail
      have en : (n : Int) / 10 = ((n / 10 : Nat) : Int) := by omega
      refine ⟨⟨n / 10, (48 + n % 10) :: s, by rw [en], by rw [HT.out, ← strN_append]; rfl, by omega, ?_, B.out.alloc B.out.size _⟩, ?_⟩
      · have h3 := I1.out
        rw [if_neg hz] at h3
        rw [← h3]
        by_cases h10 : n < 10
        · rw [if_pos (by omega), dec_small h10, show n % 10 = n by omega]; rfl
        · rw [if_neg (by omega), dec_big h10]; simp
      · show ((n : Int) / 10).toNat < ((n : Int)).toNat
        omega
end Go.Proofs.YtiejandeoopiiaaGreatDoor
