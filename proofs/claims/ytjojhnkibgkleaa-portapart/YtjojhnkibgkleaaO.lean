/-
  Bytes as strings and strings as bytes; conditions as each theorem has them.
-/
import Derived.Test.YtjojhnkibgkleaaJ
import Derived.Lib.ConvBytes
set_option linter.unusedSimpArgs false
set_option linter.unusedVariables false
set_option maxRecDepth 8000
namespace Go.Proofs.Ytjojhnkibgkleaa
open Go.RowKit Go.Lib

theorem cell_lt {w : World} {a : Addr} {v : Value} (h : w.cell? a = some v) : a.block < w.heap.size := by
  unfold World.cell? at h
  rcases Nat.lt_or_ge a.block w.heap.size with h1 | h1
  · exact h1
  · simp [Array.getElem?_eq_none h1] at h
theorem run_str {w : World} {a : Option Addr} {len cap : Nat} {l : List Int} (h : Src w a len cap l) : (convert 45 9 (.slice a len cap)).run Try.prog w = .ok (.string (strOfNums l)) w := by
  rcases Nat.eq_zero_or_pos len with h0 | h0
  · subst h0
    have hl : l = [] := List.eq_nil_of_length_eq_zero h.hlen
    subst hl
    cases a with
    | none => exact run_convert_bytes_nil (P := Try.prog) w 45 5 Try.underlying45 Try.underlying5 0 cap 9 Try.underlying9
    | some x =>
      rw [run_convert_bytes_string w 45 9 5 _ 0 cap Try.underlying45 Try.underlying5 Try.underlying9]
      simp [loadCells, loadCellsFrom, strOfNums]
      try rfl
  · obtain ⟨b, o, rfl, hc⟩ := h.lies h0
    exact run_convert_bytes_arg (P := Try.prog) w 45 5 Try.underlying45 Try.underlying5 b o len cap l h.hlen hc 9 Try.underlying9
theorem run_conv (t : ByteArray) (w : World) : (convert 9 45 (.string t)).run Try.prog w = .ok (.slice (some ⟨w.heap.size, 0, none⟩) t.size (grownCap w t.size 0 5)) (Lib.bytesWorld w 5 t) := Lib.run_convert_string_bytes (P := Try.prog) w 9 45 5 t Try.underlying9 Try.underlying45 Try.underlying5
theorem bytesW_below (w : World) (t : ByteArray) : Below w.heap.size w (Lib.bytesWorld w 5 t) := ⟨rfl, rfl, rfl, by rw [Lib.bytesWorld_size]; omega, fun k hk => Lib.bytesWorld_at_old w 5 t k hk⟩
theorem conv_src (t : ByteArray) (w : World) (h : t.size ≤ maxLen) : Src (Lib.bytesWorld w 5 t) (some ⟨w.heap.size, 0, none⟩) t.size (grownCap w t.size 0 5) (bi t) := by
  have hl := bi_length t
  refine ⟨hl, grownCap_ge _ _ _ _, grownCap_le_maxLen _ _ _ _ h, (fun e => by cases e), fun _ => ⟨w.heap.size, 0, rfl, fun i hi => ?_⟩, bi_byte t⟩
  rw [Nat.zero_add, Lib.bytesWorld_cell w 5 t i hi]
  have h' : i < t.data.toList.length := by rw [Array.length_toList]; exact hi
  simp only [bi, List.getD, List.getElem?_map, List.getElem?_eq_getElem h']
  rfl
theorem bytesW_cell {w : World} {t : ByteArray} {b o : Nat} (h : b < w.heap.size) : (Lib.bytesWorld w 5 t).cell? ⟨b, o, none⟩ = w.cell? ⟨b, o, none⟩ := (bytesW_below w t).cell (p := ⟨b, o, none⟩) h
theorem put_t (r g n : Nat) (ic oc : Int) (q : List Int) (a : Option Addr) (len cap : Nat) (bs : List Int) (m : Nat) (hm : m = min len (n - q.length)) (w : World) (h : IsRing w r g n ic oc q) (hs : Src w a len cap bs) (hap : ∀ b o, a = some ⟨b, o, none⟩ → 0 < len → b ≠ g) :
    Calls Try.prog 79 #[.pointer (some ⟨r, 0, none⟩), .slice a len cap] w fun e w' => e = .returned (.int .i64 (m : Nat)) ∧ IsRing w' r g n ((ic + (m : Nat)) % 4294967296) oc (q ++ bs.take m) ∧ Kept r g w w' := by
  subst hm
  exact put_ring r g n ic oc q a len cap bs w h hs hap
theorem bi_extract (d : ByteArray) (t : Nat) : bi (d.extract 0 t) = (bi d).take t := by
  simp [bi, ByteArray.data_extract, List.map_take]
theorem size_extract (d : ByteArray) (t : Nat) (h : t ≤ d.size) : (d.extract 0 t).size = t := by
  rw [ByteArray.size_extract]
  omega
theorem Src.below {w w' : World} {a : Option Addr} {len cap : Nat} {l : List Int} (h : Src w a len cap l) (k : Below w.heap.size w w') : Src w' a len cap l := h.keep (fun b o e h0 => by
  obtain ⟨b', o', e', hc⟩ := h.lies h0
  rw [e] at e'
  simp at e'
  have := hc 0 h0
  rw [← e'.1] at this
  exact k.block b (by simpa using cell_lt this))
theorem Src.lt {w : World} {a : Option Addr} {len cap : Nat} {l : List Int} (h : Src w a len cap l) (h0 : 0 < len) {b o : Nat} (e : a = some ⟨b, o, none⟩) : b < w.heap.size := by
  obtain ⟨b', o', e', hc⟩ := h.lies h0
  rw [e] at e'
  simp at e'
  have := hc 0 h0
  rw [← e'.1] at this
  simpa using cell_lt this
theorem Src.cut {w : World} {a : Option Addr} {len cap : Nat} {l : List Int} (h : Src w a len cap l) {t : Nat} (ht : t ≤ len) : Src w a t cap (l.take t) := by
  refine ⟨by rw [List.length_take, h.hlen]; omega, by have := h.hcap; omega, h.hmax, h.nil, fun h0 => ?_, fun x hx => h.byte x (List.mem_of_mem_take hx)⟩
  obtain ⟨b, o, e, hc⟩ := h.lies (by omega)
  refine ⟨b, o, e, fun i hi => ?_⟩
  rw [hc i (by omega)]
  simp [List.getD, List.getElem?_take, hi]

end Go.Proofs.Ytjojhnkibgkleaa
