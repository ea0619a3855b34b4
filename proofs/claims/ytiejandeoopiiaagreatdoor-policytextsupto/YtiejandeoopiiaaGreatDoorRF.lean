/-
  Print of package policy; conditions as each theorem has them.
-/
import Derived.Test.YtiejandeoopiiaaGreatDoorRE
import Derived.Deep.DrawnRows
set_option linter.unusedSimpArgs false
set_option linter.unusedVariables false
namespace Go.Proofs.YtiejandeoopiiaaGreatDoor
open Go.RowKit
/-- A box that a rule lies in. -/
structure Bx9 (w : World) (B : Nat) (r : Ru) : Prop where
  c0 : w.cell? ⟨B, 0, none⟩ = some (.bool r.al)
  c1 : w.cell? ⟨B, 1, none⟩ = some (.int .u8 (r.net.1 : Nat))
  c2 : w.cell? ⟨B, 2, none⟩ = some (.int .u8 (r.net.2.1 : Nat))
  c3 : w.cell? ⟨B, 3, none⟩ = some (.int .u8 (r.net.2.2.1 : Nat))
  c4 : w.cell? ⟨B, 4, none⟩ = some (.int .u8 (r.net.2.2.2 : Nat))
  c5 : w.cell? ⟨B, 5, none⟩ = some (.int .i64 r.bits)
  c6 : w.cell? ⟨B, 6, none⟩ = some (.string r.suf)
  c7 : w.cell? ⟨B, 7, none⟩ = some (.int .i64 r.lw)
  c8 : w.cell? ⟨B, 8, none⟩ = some (.int .i64 r.hg)
theorem Bx9.of {w : World} {B : Nat} {r : Ru} (h : w.heap[B]? = some (.cells (ruC r).toArray 37)) : Bx9 w B r := by
  constructor <;> simp [World.cell?, h, ruC]
theorem Bx9.below {w w' : World} {B : Nat} {r : Ru} (h : Bx9 w B r) (k : Below w.heap.size w w') : Bx9 w' B r :=
  ⟨(k.cell (p := ⟨B, 0, none⟩) (lt_of_cell h.c0)).trans h.c0, (k.cell (p := ⟨B, 1, none⟩) (lt_of_cell h.c1)).trans h.c1, (k.cell (p := ⟨B, 2, none⟩) (lt_of_cell h.c2)).trans h.c2, (k.cell (p := ⟨B, 3, none⟩) (lt_of_cell h.c3)).trans h.c3, (k.cell (p := ⟨B, 4, none⟩) (lt_of_cell h.c4)).trans h.c4, (k.cell (p := ⟨B, 5, none⟩) (lt_of_cell h.c5)).trans h.c5, (k.cell (p := ⟨B, 6, none⟩) (lt_of_cell h.c6)).trans h.c6, (k.cell (p := ⟨B, 7, none⟩) (lt_of_cell h.c7)).trans h.c7, (k.cell (p := ⟨B, 8, none⟩) (lt_of_cell h.c8)).trans h.c8⟩
/-- The box of a rule that is handed in. -/
theorem box_of (w : World) (r : Ru) : ∃ W, W = w.alloc (.cells (ruC r).toArray 37) ∧ W.heap[w.heap.size]? = some (.cells (ruC r).toArray 37) ∧ Below w.heap.size w W :=
  ⟨_, rfl, alloc_new _ _, (Below.refl _ _).alloc (Nat.le_refl _) _⟩

theorem printVerdict_at (r : Ru) (w : World) : Calls Tryz.prog 29 #[.agg (ruC r).toArray] w fun e w' => e = .returned (.string (strN (verT r))) ∧ Below w.heap.size w w' := by
  obtain ⟨al, ⟨a0, a1, a2, a3⟩, bt, sf, lw, hg⟩ := r
  simp only [ruC, verT]
  cases al
  · go_enter Tryz.func29, Tryz.ntmps29
    go_wp2
    go_ret
    exact ⟨rfl, (Below.refl _ _).alloc (Nat.le_refl _) _⟩
  · go_enter Tryz.func29, Tryz.ntmps29
    go_wp2
    go_ret
    exact ⟨rfl, (Below.refl _ _).alloc (Nat.le_refl _) _⟩
set_option maxRecDepth 100000 in
set_option maxHeartbeats 2000000 in
theorem printPorts_at (r : Ru) (w : World) (h1 : 1 ≤ r.lw) (h2 : r.lw ≤ r.hg) (h3 : r.hg ≤ 65535) (hP : Pow w) : Calls Tryz.prog 31 #[.agg (ruC r).toArray] w fun e w' => e = .returned (.string (strN (porT r))) ∧ Below w.heap.size w w' := by
  obtain ⟨al, ⟨a0, a1, a2, a3⟩, bt, sf, lw, hg⟩ := r
  simp only at h1 h2 h3
  obtain ⟨x, rfl⟩ : ∃ x : Nat, lw = x := ⟨lw.toNat, by omega⟩
  obtain ⟨y, rfl⟩ : ∃ y : Nat, hg = y := ⟨hg.toNat, by omega⟩
  have hx := dec_len (n := x) (by omega)
  have hy := dec_len (n := y) (by omega)
  obtain ⟨X, hX⟩ : ∃ X, X = strN (dec x) := ⟨_, rfl⟩
  obtain ⟨Y, hY⟩ : ∃ Y, Y = strN (dec y) := ⟨_, rfl⟩
  have hXs : X.size ≤ 5 := by rw [hX, strN_size]; exact hx
  have hYs : Y.size ≤ 5 := by rw [hY, strN_size]; exact hy
  have HX : Hid (∀ W, Pow W → Calls Tryz.prog 47 #[.int .i64 (x : Int)] W fun e w' => e = .returned (.string X) ∧ Below W.heap.size W w') := fun W hW => by rw [hX]; exact itoa_at x W (by omega) hW
  have HY : Hid (∀ W, Pow W → Calls Tryz.prog 47 #[.int .i64 (y : Int)] W fun e w' => e = .returned (.string Y) ∧ Below W.heap.size W w') := fun W hW => by rw [hY]; exact itoa_at y W (by omega) hW
  obtain ⟨R, hR⟩ : ∃ R, R = strN (porT ⟨al, (a0, a1, a2, a3), bt, sf, (x : Int), (y : Int)⟩) := ⟨_, rfl⟩
  rw [← hR]
  have HR : Hid (R = if (x : Int) = y then X else X ++ ⟨#[45]⟩ ++ Y) := by
    show _ = _
    rw [hR]
    unfold porT
    simp only [Int.toNat_natCast]
    split
    · exact hX.symm
    · rw [hX, hY, show (⟨#[45]⟩ : ByteArray) = strN [45] from rfl, ← strN_append, ← strN_append]; simp
  simp only [ruC]
  obtain ⟨w0, hw0⟩ : ∃ w0, w0 = w.alloc (.cells #[.bool al, .int .u8 (a0 : Nat), .int .u8 (a1 : Nat), .int .u8 (a2 : Nat), .int .u8 (a3 : Nat), .int .i64 bt, .string sf, .int .i64 (x : Int), .int .i64 (y : Int)] 37) := ⟨_, rfl⟩
  have B0 : Hid (Below w.heap.size w w0) := by rw [hw0]; exact (Below.refl _ _).alloc (Nat.le_refl _) _
  have P0 := hide (hP.below B0.out)
  have c7 : w0.cell? ⟨w.heap.size, 7, none⟩ = some (.int .i64 (x : Int)) := by rw [hw0]; simp
  have c8 : w0.cell? ⟨w.heap.size, 8, none⟩ = some (.int .i64 (y : Int)) := by rw [hw0]; simp
  have HW0 := hide hw0
  clear hw0 hX hY hR hx hy hP h1 h2 h3
  by_cases hxy : x = y
  · subst hxy
    have HZ : Hid (R = X) := by show _ = _; rw [HR.out, if_pos rfl]
    go_enter Tryz.func31, Tryz.ntmps31
    go_wp2_with fail
    rw [← HW0.out]
    refine (HX.out _ P0.out).mono ?_
    rintro e w1 ⟨rfl, hb1⟩
    go_wp2_with fail
    go_ret
    rw [HZ.out]
    exact ⟨rfl, B0.out.trans (hb1.mono B0.out.size)⟩
  · have HZ : Hid (R = X ++ ⟨#[45]⟩ ++ Y) := by show _ = _; rw [HR.out, if_neg (by omega)]
    have hq : ((x : Int) == (y : Int)) = false := by simp; omega
    have n1 : ¬ (9223372036854775807 < X.size + 1) := by omega
    have n2 : ¬ (9223372036854775807 < X.size + 1 + Y.size) := by omega
    clear hxy hXs hYs
    go_enter Tryz.func31, Tryz.ntmps31
    go_wp2_with fail
    rw [← HW0.out]
    go_region_held3 (fun w' => w'.cell? ⟨w.heap.size, 7, none⟩ = some (.int .i64 (x : Int)) ∧ w'.cell? ⟨w.heap.size, 8, none⟩ = some (.int .i64 (y : Int))) (go_keep) (first
      | (go_at_call_of 47 (Value.int .i64 (x : Int)); refine (HX.out _ (by exact P0.out)).mono ?_; rintro e wp ⟨rfl, hk⟩; have hk' : Below w0.heap.size w0 wp := ⟨hk.os, hk.tape, hk.output, hk.size, hk.block⟩; have PP := hide (P0.out.below hk'); have BP := hide (B0.out.trans (hk'.mono B0.out.size)); have p7 := (hk'.cell (p := ⟨w.heap.size, 7, none⟩) (lt_of_cell c7)).trans c7; have p8 := (hk'.cell (p := ⟨w.heap.size, 8, none⟩) (lt_of_cell c8)).trans c8; clear hk hk')
      | (go_at_call_of 47 (Value.int .i64 (y : Int)); refine (HY.out _ (by exact PP.out)).mono ?_; rintro e wq ⟨rfl, hk⟩; have hk' : Below wp.heap.size wp wq := ⟨hk.os, hk.tape, hk.output, hk.size, hk.block⟩; have BQ := hide (BP.out.trans (hk'.mono BP.out.size)); have q7 := (hk'.cell (p := ⟨w.heap.size, 7, none⟩) (lt_of_cell p7)).trans p7; have q8 := (hk'.cell (p := ⟨w.heap.size, 8, none⟩) (lt_of_cell p8)).trans p8; clear hk hk'))
    go_wp2_with fail
    go_ret
    rw [HZ.out]
    exact ⟨rfl, BQ.out⟩
theorem hot_net (a : Ad) : hot a [] = adt a := by
  unfold hot
  rw [if_pos (by simp [chk]), if_pos rfl]
set_option maxRecDepth 100000 in
set_option maxHeartbeats 2000000 in
theorem printTarget_at (r : Ru) (w : World) (hr : r.ok) (hg : r.right = true) (hV : Vars w) (hP : Pow w) : Calls Tryz.prog 30 #[.agg (ruC r).toArray] w fun e w' => e = .returned (.string (strN (tarT r))) ∧ Below w.heap.size w w' := by
  obtain ⟨_, _, _, hpt⟩ := right_parts hg
  have HOF := hide (fun W => isOfNet_at r W)
  have hal := adk_len r.net.1 r.net.2.1 r.net.2.2.1 r.net.2.2.2 hr.net.1 hr.net.2.1 hr.net.2.2.1 hr.net.2.2.2 3
  obtain ⟨R, hR⟩ : ∃ R, R = strN (tarT r) := ⟨_, rfl⟩
  rw [← hR]
  unfold tarT at hR
  have HR := hide hR
  clear hR hg
  obtain ⟨al, ⟨a0, a1, a2, a3⟩, bt, sf, lw, hg⟩ := r
  simp only at hpt hal
  simp only [ruC, ruV] at HR HOF ⊢
  obtain ⟨w0, hw0⟩ : ∃ w0, w0 = w.alloc (.cells #[.bool al, .int .u8 (a0 : Nat), .int .u8 (a1 : Nat), .int .u8 (a2 : Nat), .int .u8 (a3 : Nat), .int .i64 bt, .string sf, .int .i64 lw, .int .i64 hg] 37) := ⟨_, rfl⟩
  have B0 : Hid (Below w.heap.size w w0) := by rw [hw0]; exact (Below.refl _ _).alloc (Nat.le_refl _) _
  have r0 : Hid (w0.heap[w.heap.size]? = some (.cells #[.bool al, .int .u8 (a0 : Nat), .int .u8 (a1 : Nat), .int .u8 (a2 : Nat), .int .u8 (a3 : Nat), .int .i64 bt, .string sf, .int .i64 lw, .int .i64 hg] 37)) := by rw [hw0]; exact alloc_new _ _
  have HW0 := hide hw0
  have P0 := hide (hP.below B0.out)
  have V0 := hide (hV.below B0.out)
  have HPR := hide (fun W hv hp => print_at (a0, a1, a2, a3) ⟨#[]⟩ W hr.net (by unfold maxLen; decide) hv hp)
  obtain ⟨A, hA⟩ : ∃ A, A = strN (adt (a0, a1, a2, a3)) := ⟨_, rfl⟩
  have hAs : A.size ≤ 23 := by rw [hA, strN_size]; exact hal
  rw [show byt (⟨#[]⟩ : ByteArray) = [] from rfl, hot_net, ← hA] at HPR
  simp only [hoV] at HPR
  clear hw0 hV hP hr hal
  rcases hpt with ⟨hs, b1, b2⟩ | ⟨hs, b1, b2, b3⟩
  · obtain ⟨x, rfl⟩ : ∃ x : Nat, bt = x := ⟨bt.toNat, by omega⟩
    have hx := dec_len (n := x) (by omega)
    obtain ⟨X, hX⟩ : ∃ X, X = strN (dec x) := ⟨_, rfl⟩
    have hXs : X.size ≤ 5 := by rw [hX, strN_size]; exact hx
    have HX : Hid (∀ W, Pow W → Calls Tryz.prog 47 #[.int .i64 (x : Int)] W fun e w' => e = .returned (.string X) ∧ Below W.heap.size W w') := fun W hW => by rw [hX]; exact itoa_at x W (by omega) hW
    have HZ : Hid (R = A ++ ⟨#[47]⟩ ++ X) := by
      show _ = _
      rw [HR.out, if_pos hs, hA, hX, show (⟨#[47]⟩ : ByteArray) = strN [47] from rfl, ← strN_append, ← strN_append]
      simp
    have n1 : ¬ (9223372036854775807 < A.size + 1) := by omega
    have n2 : ¬ (9223372036854775807 < A.size + 1 + X.size) := by omega
    rw [decide_eq_true hs] at HOF
    clear hs b1 b2 hx hX hXs hA hAs HR
    go_enter Tryz.func30, Tryz.ntmps30
    go_wp2_with (first | (rw [← HW0.out]; refine wpList_load_row rfl 37 _ rfl w.heap.size rfl 37 _ (0, 0) _ r0.out Tryz.underlying37 rfl infoRu ?_))
    refine (HOF.out _).mono ?_
    rintro e w1 ⟨rfl, hb1⟩
    have q0 := keepB hb1 r0.out
    have B1 := hide (B0.out.trans (hb1.mono B0.out.size))
    have P1 := hide (P0.out.below hb1)
    have V1 := hide (V0.out.below hb1)
    have e1 : w1.cell? ⟨w.heap.size, 1, none⟩ = some (.int .u8 (a0 : Nat)) := by simp [World.cell?, q0]
    have e2 : w1.cell? ⟨w.heap.size, 2, none⟩ = some (.int .u8 (a1 : Nat)) := by simp [World.cell?, q0]
    have e3 : w1.cell? ⟨w.heap.size, 3, none⟩ = some (.int .u8 (a2 : Nat)) := by simp [World.cell?, q0]
    have e4 : w1.cell? ⟨w.heap.size, 4, none⟩ = some (.int .u8 (a3 : Nat)) := by simp [World.cell?, q0]
    have e5 : w1.cell? ⟨w.heap.size, 5, none⟩ = some (.int .i64 (x : Int)) := by simp [World.cell?, q0]
    clear hb1 q0
    go_wp2_with fail
    go_region_held3 (fun w' => w'.cell? ⟨w.heap.size, 1, none⟩ = some (.int .u8 (a0 : Nat)) ∧ w'.cell? ⟨w.heap.size, 2, none⟩ = some (.int .u8 (a1 : Nat)) ∧ w'.cell? ⟨w.heap.size, 3, none⟩ = some (.int .u8 (a2 : Nat)) ∧ w'.cell? ⟨w.heap.size, 4, none⟩ = some (.int .u8 (a3 : Nat)) ∧ w'.cell? ⟨w.heap.size, 5, none⟩ = some (.int .i64 (x : Int))) (go_keep) (first
      | (go_at_call 46; refine (HPR.out _ (by exact V1.out) (by exact P1.out)).mono ?_; rintro e wp ⟨rfl, hk⟩; have hk' : Below w1.heap.size w1 wp := ⟨hk.os, hk.tape, hk.output, hk.size, hk.block⟩; have PP := hide (P1.out.below hk'); have BP := hide (B1.out.trans (hk'.mono B1.out.size)); have p1 := (hk'.cell (p := ⟨w.heap.size, 1, none⟩) (lt_of_cell e1)).trans e1; have p2 := (hk'.cell (p := ⟨w.heap.size, 2, none⟩) (lt_of_cell e2)).trans e2; have p3 := (hk'.cell (p := ⟨w.heap.size, 3, none⟩) (lt_of_cell e3)).trans e3; have p4 := (hk'.cell (p := ⟨w.heap.size, 4, none⟩) (lt_of_cell e4)).trans e4; have p5 := (hk'.cell (p := ⟨w.heap.size, 5, none⟩) (lt_of_cell e5)).trans e5; clear hk hk')
      | (go_at_call 47; refine (HX.out _ (by exact PP.out)).mono ?_; rintro e wq ⟨rfl, hk⟩; have hk' : Below wp.heap.size wp wq := ⟨hk.os, hk.tape, hk.output, hk.size, hk.block⟩; have BQ := hide (BP.out.trans (hk'.mono BP.out.size)); have q1 := (hk'.cell (p := ⟨w.heap.size, 1, none⟩) (lt_of_cell p1)).trans p1; have q2 := (hk'.cell (p := ⟨w.heap.size, 2, none⟩) (lt_of_cell p2)).trans p2; have q3 := (hk'.cell (p := ⟨w.heap.size, 3, none⟩) (lt_of_cell p3)).trans p3; have q4 := (hk'.cell (p := ⟨w.heap.size, 4, none⟩) (lt_of_cell p4)).trans p4; have q5 := (hk'.cell (p := ⟨w.heap.size, 5, none⟩) (lt_of_cell p5)).trans p5; clear hk hk'))
    go_wp2_with fail
    go_ret
    rw [HZ.out]
    exact ⟨rfl, BQ.out⟩
  · rw [if_neg hs] at HR
    have HZ : Hid (R = sf) := by show _ = _; rw [HR.out, strN_byt]
    rw [decide_eq_false hs] at HOF
    clear hs b1 b2 b3 HR hA hAs
    go_enter Tryz.func30, Tryz.ntmps30
    go_wp2_with (first | (rw [← HW0.out]; refine wpList_load_row rfl 37 _ rfl w.heap.size rfl 37 _ (0, 0) _ r0.out Tryz.underlying37 rfl infoRu ?_))
    refine (HOF.out _).mono ?_
    rintro e w1 ⟨rfl, hb1⟩
    have q0 := keepB hb1 r0.out
    have e6 : w1.cell? ⟨w.heap.size, 6, none⟩ = some (.string sf) := by simp [World.cell?, q0]
    have B1 := hide (B0.out.trans (hb1.mono B0.out.size))
    clear hb1 q0
    go_wp2_with fail
    go_ret
    rw [HZ.out]
    exact ⟨rfl, B1.out⟩
/-- The cells of a block. -/
def rowOf (w : World) (g : Nat) : Array Value := match w.heap[g]? with | some (.cells cs _ _) => cs | _ => #[]
def isRow (w : World) (g n : Nat) : Bool := match w.heap[g]? with | some (.cells cs _ _) => cs.size == n | _ => false
def arrAt (w : World) : Value → Array Value
  | .pointer (some ⟨g, 0, none⟩) => rowOf w g
  | _ => #[]
def isAt (n : Nat) (w : World) : Value → Bool
  | .pointer (some ⟨g, 0, none⟩) => isRow w g n
  | _ => false
theorem arrAt_ptr (w : World) (g : Nat) : arrAt w (.pointer (some ⟨g, 0, none⟩)) = rowOf w g := rfl
theorem isAt_ptr (n : Nat) (w : World) (g : Nat) : isAt n w (.pointer (some ⟨g, 0, none⟩)) = isRow w g n := rfl
theorem rowOf_drew (w : World) (g : Nat) : rowOf w.drew g = rowOf w g := rfl
theorem isRow_drew (w : World) (g n : Nat) : isRow w.drew g n = isRow w g n := rfl
theorem rowOf_of {w : World} {g : Nat} {cs : Array Value} {t : TypeId} (h : w.heap[g]? = some (.cells cs t)) : rowOf w g = cs := by simp [rowOf, h]
theorem isRow_of {w : World} {g n : Nat} {cs : Array Value} {t : TypeId} (h : w.heap[g]? = some (.cells cs t)) (hn : cs.size = n) : isRow w g n = true := by simp [isRow, h, hn]
theorem run_opRu (ρ : Operand → Value) (dst : Option Tmp) (x : Operand) (ty : TypeId) (pos : String) (after : Array Edge) (guard : Option (Nat × Bool)) (w : World) (h : isAt 9 w (ρ x) = true) :
    (execOp ρ { dst, op := .load 37 x, type := ty, pos, after, guard }).run Tryz.prog w = .ok (.value (.agg (arrAt w (ρ x)))) w := by
  unfold isAt at h
  split at h
  · rename_i g e
    unfold isRow at h
    split at h
    · rename_i cs t fr eq
      have hs : cs.size = 9 := by simpa using h
      have hr : rowOf w g = cs := by simp [rowOf, eq]
      unfold execOp
      simp only [e, Instr.loadAt, Instr.sureAddr, Sem.run_bind, Sem.run_pure, Result.andThen_ok, run_loadVar_row w g t 37 cs fr _ eq Tryz.underlying37 rfl (by rw [hs]; exact infoRu), arrAt, hr]
    · cases h
  · cases h
def prtE (r : Ru) : Nat := if r.right = true then 0 else 120
def prtT (r : Ru) : List Nat := if r.right = true then prt r else []
attribute [local go_sem ↓] run_opRu Go.wp_at_zero Go.wp_at_succ
attribute [local go_sem] rowOf_drew isRow_drew arrAt_ptr isAt_ptr
set_option maxRecDepth 100000 in
set_option maxHeartbeats 2000000 in
theorem pPrint_at (r : Ru) (w : World) (hr : r.ok) (hV : Vars w) (hP : Pow w) : Calls Tryz.prog 15 #[.agg (ruC r).toArray] w fun e w' => e = .returned (.tuple #[.string (strN (prtT r)), .int .i64 (prtE r : Nat)]) ∧ Below w.heap.size w w' := by
  obtain ⟨W0, hW0, g1, g2⟩ := box_of w r
  have HW0 := hide hW0
  have r0 := hide g1
  have B0 := hide g2
  have P0 := hide (hP.below g2)
  have V0 := hide (hV.below g2)
  have HIR : Hid (∀ W, Vars W → Calls Tryz.prog 21 #[.agg (ruC r).toArray] W fun e w' => e = .returned (.bool r.right) ∧ Below W.heap.size W w') := fun W hv => isRule_at r W hr hv
  have HTT : Hid (prtT r = if r.right = true then prt r else []) := rfl
  have HTE : Hid (prtE r = if r.right = true then 0 else 120) := rfl
  generalize prtT r = TT at HTT ⊢
  generalize prtE r = TE at HTE ⊢
  clear hW0 g1 g2 hV hP
  cases hg : r.right with
  | false =>
    rw [hg] at HIR HTT HTE
    obtain rfl : TT = [] := HTT.out
    obtain rfl : TE = 120 := HTE.out
    go_enter Tryz.func15, Tryz.ntmps15
    go_wp2_with (first | (rw [← HW0.out]; refine wpList_load_row rfl 37 _ rfl w.heap.size rfl 37 _ (0, 0) _ r0.out Tryz.underlying37 rfl infoRu ?_))
    refine (HIR.out _ V0.out).mono ?_
    rintro e w1 ⟨rfl, hb1⟩
    go_wp2_with fail
    go_ret2
    exact ⟨rfl, B0.out.trans (hb1.mono B0.out.size)⟩
  | true =>
    obtain ⟨q1, q2, q3, _⟩ := right_parts hg
    have HV : Hid (∀ W, Calls Tryz.prog 29 #[.agg (ruC r).toArray] W fun e w' => e = .returned (.string (strN (verT r))) ∧ Below W.heap.size W w') := fun W => printVerdict_at r W
    have HT : Hid (∀ W, Vars W → Pow W → Calls Tryz.prog 30 #[.agg (ruC r).toArray] W fun e w' => e = .returned (.string (strN (tarT r))) ∧ Below W.heap.size W w') := fun W hv hp => printTarget_at r W hr hg hv hp
    have HP : Hid (∀ W, Pow W → Calls Tryz.prog 31 #[.agg (ruC r).toArray] W fun e w' => e = .returned (.string (strN (porT r))) ∧ Below W.heap.size W w') := fun W hp => printPorts_at r W q1 q2 q3 hp
    have hlen := prt_len hg hr.net
    rw [hg] at HIR HTT HTE
    have HTT' : Hid (TT = prt r) := HTT.out
    obtain rfl : TE = 0 := HTE.out
    obtain ⟨A, hA⟩ : ∃ A, A = strN (verT r) := ⟨_, rfl⟩
    obtain ⟨B, hB⟩ : ∃ B, B = strN (tarT r) := ⟨_, rfl⟩
    obtain ⟨D, hD⟩ : ∃ D, D = strN (porT r) := ⟨_, rfl⟩
    rw [← hA] at HV
    rw [← hB] at HT
    rw [← hD] at HP
    have hsz : A.size + 1 + B.size + 1 + D.size ≤ 271 := by
      rw [hA, hB, hD, strN_size, strN_size, strN_size]
      unfold prt at hlen
      simp only [List.length_append, List.length_cons] at hlen
      omega
    have HZ : Hid (strN TT = A ++ ⟨#[32]⟩ ++ B ++ ⟨#[32]⟩ ++ D) := by
      show _ = _
      rw [HTT'.out, hA, hB, hD, show (⟨#[32]⟩ : ByteArray) = strN [32] from rfl, ← strN_append, ← strN_append, ← strN_append, ← strN_append]
      congr 1
      simp [prt]
    have n1 : ¬ (9223372036854775807 < A.size + 1) := by omega
    have n2 : ¬ (9223372036854775807 < A.size + 1 + B.size) := by omega
    have n3 : ¬ (9223372036854775807 < A.size + 1 + B.size + 1) := by omega
    have n4 : ¬ (9223372036854775807 < A.size + 1 + B.size + 1 + D.size) := by omega
    clear hA hB hD hsz hlen q1 q2 q3 hr HTT HTE HTT'
    go_enter Tryz.func15, Tryz.ntmps15
    go_wp2_with (first | (rw [← HW0.out]; refine wpList_load_row rfl 37 _ rfl w.heap.size rfl 37 _ (0, 0) _ r0.out Tryz.underlying37 rfl infoRu ?_))
    refine (HIR.out _ V0.out).mono ?_
    rintro e w1 ⟨rfl, hb1⟩
    have R1 := hide (keepB hb1 r0.out)
    have B1 := hide (B0.out.trans (hb1.mono B0.out.size))
    have P1 := hide (P0.out.below hb1)
    have V1 := hide (V0.out.below hb1)
    have k1 : isRow w1 w.heap.size 9 = true := isRow_of R1.out rfl
    have k2 : rowOf w1 w.heap.size = (ruC r).toArray := rowOf_of R1.out
    clear hb1
    go_wp2_with fail
    go_region_with (first
      | (go_at_call 29; refine (HV.out _).mono ?_; rintro e wa ⟨rfl, hk⟩; have hk' : Below w1.heap.size w1 wa := ⟨hk.os, hk.tape, hk.output, hk.size, hk.block⟩; have RA := hide (keepB hk' R1.out); have BA := hide (B1.out.trans (hk'.mono B1.out.size)); have PA := hide (P1.out.below hk'); have VA := hide (V1.out.below hk'); have ka1 : isRow wa w.heap.size 9 = true := isRow_of RA.out rfl; have ka2 : rowOf wa w.heap.size = (ruC r).toArray := rowOf_of RA.out; clear hk hk')
      | (go_at_call 30; refine (HT.out _ (by exact VA.out) (by exact PA.out)).mono ?_; rintro e wb ⟨rfl, hk⟩; have hk' : Below wa.heap.size wa wb := ⟨hk.os, hk.tape, hk.output, hk.size, hk.block⟩; have RB := hide (keepB hk' RA.out); have BB := hide (BA.out.trans (hk'.mono BA.out.size)); have PB := hide (PA.out.below hk'); have kb1 : isRow wb w.heap.size 9 = true := isRow_of RB.out rfl; have kb2 : rowOf wb w.heap.size = (ruC r).toArray := rowOf_of RB.out; clear hk hk')
      | (go_at_call 31; refine (HP.out _ (by exact PB.out)).mono ?_; rintro e wc ⟨rfl, hk⟩; have hk' : Below wb.heap.size wb wc := ⟨hk.os, hk.tape, hk.output, hk.size, hk.block⟩; have BC := hide (BB.out.trans (hk'.mono BB.out.size)); clear hk hk'))
    all_goals go_wp2_with fail
    all_goals go_ret2
    all_goals (rw [HZ.out]; exact ⟨rfl, BC.out⟩)

end Go.Proofs.YtiejandeoopiiaaGreatDoor
