/-
  The leaf functions of package ring: what isMade, within, Len, Cap, Free and Moved answer, at a ring that was made and at one that was not; no conditions but those in each theorem.
-/
import Derived.Test.YtjojhnkibgkleaaRows
import Derived.WalkKit
import Derived.WalkSpells
import Derived.WalkLawsBesides
import Derived.BigQuiet
set_option linter.unusedSimpArgs false
set_option linter.unusedVariables false
set_option maxRecDepth 8000
namespace Go.Proofs.Ytjojhnkibgkleaa
open Go.RowKit

set_option maxHeartbeats 400000 in
theorem isMade_nil (w : World) : Calls Try.prog 89 #[.pointer none] w fun e w' => e = .returned (.bool false) ∧ w = w' := by
  go_enter Try.func89, Try.ntmps89
  go_wp2
  go_ret
  exact ⟨rfl, rfl⟩

set_option maxHeartbeats 400000 in
theorem isMade_at (r : Nat) (m : Bool) (w : World) (h0 : w.cell? ⟨r, 0, none⟩ = some (.bool m)) : Calls Try.prog 89 #[.pointer (some ⟨r, 0, none⟩)] w fun e w' => e = .returned (.bool m) ∧ w = w' := by
  go_enter Try.func89, Try.ntmps89
  go_wp2
  go_ret
  exact ⟨rfl, rfl⟩

def inside (n most : Int) : Int := if n < 0 then 0 else if most < n then most else n

set_option maxHeartbeats 400000 in
theorem within_any (n most : Int) (w : World) : Calls Try.prog 91 #[.int .i64 n, .int .i64 most] w fun e w' => e = .returned (.int .i64 (inside n most)) ∧ w = w' := by
  unfold inside
  by_cases h1 : n < 0
  · go_enter Try.func91, Try.ntmps91
    go_wp2
    go_ret
    simp [h1]
  · by_cases h2 : most < n
    · go_enter Try.func91, Try.ntmps91
      go_wp2
      go_ret
      simp [h1, h2]
    · go_enter Try.func91, Try.ntmps91
      go_wp2
      go_ret
      simp [h1, h2]

/-- A pointer to no ring that New made: nil, or to one that does not say that it was made. -/
def Unmade (w : World) (v : Value) : Prop := v = .pointer none ∨ ∃ r : Nat, v = .pointer (some ⟨r, 0, none⟩) ∧ w.cell? ⟨r, 0, none⟩ = some (.bool false)

/-- The cells of a ring that New made: its array lies in block g, n bytes. -/
def hdr (g n : Nat) (ip ic op oc : Int) : Obj := .cells #[.bool true, .slice (some ⟨g, 0, none⟩) n n, .int .i64 ip, .int .u32 ic, .int .i64 op, .int .u32 oc] 117

theorem hdr_cells {w : World} {r g n : Nat} {ip ic op oc : Int} (h : w.heap[r]? = some (hdr g n ip ic op oc)) :
    w.cell? ⟨r, 0, none⟩ = some (.bool true) ∧ w.cell? ⟨r, 1, none⟩ = some (.slice (some ⟨g, 0, none⟩) n n) ∧ w.cell? ⟨r, 2, none⟩ = some (.int .i64 ip) ∧ w.cell? ⟨r, 3, none⟩ = some (.int .u32 ic) ∧ w.cell? ⟨r, 4, none⟩ = some (.int .i64 op) ∧ w.cell? ⟨r, 5, none⟩ = some (.int .u32 oc) := by
  unfold hdr at h
  simp [World.cell?, h]

theorem hdr_frozen {w : World} {r g n : Nat} {ip ic op oc : Int} (h : w.heap[r]? = some (hdr g n ip ic op oc)) (o : Nat) : w.frozen? ⟨r, o, none⟩ = false := by
  unfold hdr at h
  simp [World.frozen?, h]

set_option maxHeartbeats 400000 in
theorem len_un (v : Value) (w : World) (hv : Unmade w v) : Calls Try.prog 68 #[v] w fun e w' => e = .returned (.int .i64 0) ∧ w = w' := by
  rcases hv with rfl | ⟨r, rfl, h0⟩
  all_goals
    go_enter Try.func68, Try.ntmps68
    go_wp2
    go_ret
    exact ⟨rfl, rfl⟩

set_option maxHeartbeats 400000 in
theorem cap_un (v : Value) (w : World) (hv : Unmade w v) : Calls Try.prog 94 #[v] w fun e w' => e = .returned (.int .i64 0) ∧ w = w' := by
  rcases hv with rfl | ⟨r, rfl, h0⟩
  all_goals
    go_enter Try.func94, Try.ntmps94
    go_wp2
    go_ret
    exact ⟨rfl, rfl⟩

set_option maxHeartbeats 400000 in
theorem free_un (v : Value) (w : World) (hv : Unmade w v) : Calls Try.prog 80 #[v] w fun e w' => e = .returned (.int .i64 0) ∧ w = w' := by
  rcases hv with rfl | ⟨r, rfl, h0⟩
  all_goals
    go_enter Try.func80, Try.ntmps80
    go_wp2
    go_ret
    exact ⟨rfl, rfl⟩

set_option maxHeartbeats 400000 in
theorem peek_un (v : Value) (n : Int) (w : World) (hv : Unmade w v) : Calls Try.prog 69 #[v, .int .i64 n] w fun e w' => e = .returned (.slice none 0 0) ∧ w = w' := by
  rcases hv with rfl | ⟨r, rfl, h0⟩
  all_goals
    go_enter Try.func69, Try.ntmps69
    go_wp2
    go_ret
    exact ⟨rfl, rfl⟩

set_option maxHeartbeats 400000 in
theorem drop_un (v : Value) (n : Int) (w : World) (hv : Unmade w v) : Calls Try.prog 81 #[v, .int .i64 n] w fun e w' => e = .returned (.int .i64 0) ∧ w = w' := by
  rcases hv with rfl | ⟨r, rfl, h0⟩
  all_goals
    go_enter Try.func81, Try.ntmps81
    go_wp2
    go_ret
    exact ⟨rfl, rfl⟩

set_option maxHeartbeats 400000 in
theorem take_un (v : Value) (n : Int) (w : World) (hv : Unmade w v) : Calls Try.prog 50 #[v, .int .i64 n] w fun e w' => e = .returned (.slice none 0 0) ∧ w = w' := by
  rcases hv with rfl | ⟨r, rfl, h0⟩
  all_goals
    go_enter Try.func50, Try.ntmps50
    go_wp2
    go_ret
    exact ⟨rfl, rfl⟩

set_option maxHeartbeats 400000 in
theorem clear_un (v : Value) (w : World) (hv : Unmade w v) : Calls Try.prog 82 #[v] w fun e w' => e = .returned (.tuple #[]) ∧ w = w' := by
  rcases hv with rfl | ⟨r, rfl, h0⟩
  all_goals
    go_enter Try.func82, Try.ntmps82
    go_wp2
    go_end0
    exact ⟨rfl, rfl⟩

set_option maxHeartbeats 400000 in
theorem clone_un (v : Value) (w : World) (hv : Unmade w v) : Calls Try.prog 75 #[v] w fun e w' => e = .returned (.pointer none) ∧ w = w' := by
  rcases hv with rfl | ⟨r, rfl, h0⟩
  all_goals
    go_enter Try.func75, Try.ntmps75
    go_wp2
    go_ret
    exact ⟨rfl, rfl⟩

set_option maxHeartbeats 400000 in
theorem put_un (v : Value) (b : Value) (w : World) (hv : Unmade w v) : Calls Try.prog 79 #[v, b] w fun e w' => e = .returned (.int .i64 0) ∧ w = w' := by
  rcases hv with rfl | ⟨r, rfl, h0⟩
  all_goals
    go_enter Try.func79, Try.ntmps79
    go_wp2
    go_ret
    exact ⟨rfl, rfl⟩

set_option maxHeartbeats 400000 in
theorem len_at (r g n : Nat) (ip ic op oc L : Int) (w : World) (hb : w.heap[r]? = some (hdr g n ip ic op oc)) (hL : (ic - oc) % 4294967296 = L) :
    Calls Try.prog 68 #[.pointer (some ⟨r, 0, none⟩)] w fun e w' => e = .returned (.int .i64 L) ∧ ∃ n, w' = w.drewN n := by
  obtain ⟨h0, h1, h2, h3, h4, h5⟩ := hdr_cells hb
  clear hb
  subst hL
  go_enter Try.func68, Try.ntmps68
  go_wp2
  go_quiet (fail)
  go_wp2
  go_ret
  exact ⟨rfl, _, rfl⟩

set_option maxHeartbeats 400000 in
theorem cap_at (r g n : Nat) (ip ic op oc : Int) (w : World) (hb : w.heap[r]? = some (hdr g n ip ic op oc)) :
    Calls Try.prog 94 #[.pointer (some ⟨r, 0, none⟩)] w fun e w' => e = .returned (.int .i64 n) ∧ w = w' := by
  obtain ⟨h0, h1, h2, h3, h4, h5⟩ := hdr_cells hb
  clear hb
  go_enter Try.func94, Try.ntmps94
  go_wp2
  go_ret
  exact ⟨rfl, rfl⟩

set_option maxHeartbeats 400000 in
theorem free_at (r g n : Nat) (ip ic op oc L : Int) (w : World) (hb : w.heap[r]? = some (hdr g n ip ic op oc)) (hL : (ic - oc) % 4294967296 = L) (hn : n ≤ 65536) :
    Calls Try.prog 80 #[.pointer (some ⟨r, 0, none⟩)] w fun e w' => e = .returned (.int .i64 (n - L)) ∧ ∃ n, w' = w.drewN n := by
  have hL0 : 0 ≤ L := by omega
  have hL1 : L < 4294967296 := by omega
  have H : Hid ((ic - oc) % 4294967296 = L) := hL
  clear hL
  go_enter Try.func80, Try.ntmps80
  go_wp2_with fail
  refine (cap_at r g n ip ic op oc _ hb).mono ?_
  rintro e w1 ⟨rfl, rfl⟩
  go_wp2_with fail
  refine (len_at r g n ip ic op oc L _ hb H.out).mono ?_
  rintro e w1 ⟨rfl, m, rfl⟩
  go_wp2
  go_ret
  exact ⟨rfl, _, rfl⟩

end Go.Proofs.Ytjojhnkibgkleaa
