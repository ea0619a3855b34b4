/-
  Used, Get and List of the reference; conditions as each theorem has them.
-/
import Derived.Test.YtmolcipbopaniaaY
import Derived.Deep.DrawnRows
set_option linter.unusedSimpArgs false
set_option linter.unusedVariables false
namespace Go.Proofs.Ytmolcipbopaniaa
open Go.RowKit
set_option maxRecDepth 100000 in
set_option maxHeartbeats 4000000 in
theorem rused_at (r g N : Nat) (L : List Sl) (now : Int) (w : World) (h : Reads w r g N L) :
    Calls Try.prog 19 #[.pointer (some ⟨r, 0, none⟩), .int .i64 now] w fun e w' => e = .returned (.int .i64 (used L now : Nat)) ∧ Below w.heap.size w w' := by
  have hm := h.max
  have H := hide h
  clear h
  have HW := fun w' => hide (when_at now w')
  by_cases hb : badNow now
  · have HU : Hid (used L now = 0) := by show _ = _; unfold used; rw [if_pos hb]
    rw [show decide (¬ badNow now) = false by simp [hb]] at HW
    have hc0 := H.out.head w (Below.refl _ _)
    clear hb
    go_enter Try.func19, Try.ntmps19
    go_wp2_with fail
    go_loopw [5, 6] (fun u v wr => u = .int .i64 0 ∧ v = .int .i64 0 ∧ Hid (Below w.heap.size w wr)) (fun _ v _ => 0)
    case atStart => exact ⟨rfl, rfl, Below.refl _ _⟩
    case round =>
      obtain ⟨rfl, rfl, HB⟩ := hrel
      have hc1 := H.out.head wr HB.out
      by_cases h0 : 0 < N
      · have hd : decide ((0 : Int) < (N : Int)) = true := decide_eq_true (by omega)
        go_wp2_with fail
        refine (HW wr).out.mono ?_
        rintro e w1 ⟨rfl, rfl⟩
        go_wp2_with fail
        go_ret
        exact ⟨by rw [HU.out]; rfl, HB.out⟩
      · have hd : decide ((0 : Int) < (N : Int)) = false := decide_eq_false (by omega)
        go_wp2_with fail
        go_ret
        exact ⟨by rw [HU.out]; rfl, HB.out⟩
  · have HU : Hid (used L now = cnt L now N) := by show _ = _; unfold used; rw [if_neg hb, H.out.len]
    rw [show decide (¬ badNow now) = true by simp [hb]] at HW
    have hn0 : 0 ≤ now := by unfold badNow at hb; omega
    clear hb
    go_enter Try.func19, Try.ntmps19
    go_wp2_with fail
    go_loopw [5, 6] (fun u v wr => ∃ j c : Nat, j ≤ N ∧ c ≤ j ∧ v = .int .i64 j ∧ u = .int .i64 c ∧ Hid (Below w.heap.size w wr) ∧ Hid (c = cnt L now j)) (fun _ v _ => N - (intOf v).toNat)
    case atStart => exact ⟨0, 0, Nat.zero_le _, Nat.zero_le _, rfl, rfl, Below.refl _ _, rfl⟩
    case round =>
      obtain ⟨j, c, hj, hc, rfl, rfl, HB, HX⟩ := hrel
      have hc0 := H.out.head wr HB.out
      by_cases hjn : j < N
      · have hd : decide ((j : Int) < (N : Int)) = true := decide_eq_true (by omega)
        obtain ⟨c0, c2⟩ := H.out.at_ wr HB.out j hjn
        have hok := H.out.ok _ _ (get_at0 (show j < L.length by rw [H.out.len]; exact hjn))
        by_cases ht : now < (at0 L j).till
        · have hz := holds_name hok hn0 ht
          have z1 : ((at0 L j).name.toList == []) = false := by rw [ba_nil]; simp [hz]
          have z2 : (at0 L j).name.toList.isEmpty = false := by rw [ba_emp]; simp [hz]
          have z3 : decide (now < (at0 L j).till) = true := decide_eq_true ht
          have HX2 : Hid (c + 1 = cnt L now (j + 1)) := by show _ = _; rw [HX.out]; simp [cnt, ht]
          clear hz hok
          generalize (at0 L j).name = nj at c0 z1 z2
          generalize (at0 L j).till = tj at c2 z3 ht
          go_wp2_with fail
          refine (HW wr).out.mono ?_
          rintro e w1 ⟨rfl, rfl⟩
          go_wp2_with fail
          go_roundw
          case rel => exact ⟨j + 1, c + 1, by omega, by omega, by go_num, by go_num, HB, HX2⟩
          case measure => simp [intOf]; omega
        · have HX2 : Hid (c = cnt L now (j + 1)) := by show _ = _; rw [HX.out]; simp [cnt, ht]
          have z3 : decide (now < (at0 L j).till) = false := decide_eq_false ht
          by_cases hz : (at0 L j).name.size = 0
          all_goals
            first
              | (have z1 : ((at0 L j).name.toList == []) = true := by rw [ba_nil]; simp [hz]
                 have z2 : (at0 L j).name.toList.isEmpty = true := by rw [ba_emp]; simp [hz]
                 clear hz hok
                 generalize (at0 L j).name = nj at c0 z1 z2)
              | (have z1 : ((at0 L j).name.toList == []) = false := by rw [ba_nil]; simp [hz]
                 have z2 : (at0 L j).name.toList.isEmpty = false := by rw [ba_emp]; simp [hz]
                 clear hz hok
                 generalize (at0 L j).name = nj at c0 z1 z2)
            generalize (at0 L j).till = tj at c2 z3 ht
            go_wp2_with fail
            refine (HW wr).out.mono ?_
            rintro e w1 ⟨rfl, rfl⟩
            go_wp2_with fail
            go_roundw
            case rel => exact ⟨j + 1, c, by omega, by omega, by go_num, by go_num, HB, HX2⟩
            case measure => simp [intOf]; omega
      · have hd : decide ((j : Int) < (N : Int)) = false := decide_eq_false (by omega)
        obtain rfl : j = N := by omega
        go_wp2_with fail
        go_ret
        exact ⟨by rw [HU.out, ← HX.out]; rfl, HB.out⟩
attribute [local go_sem ↓] run_opap Go.wp_at_zero Go.wp_at_succ
set_option maxRecDepth 100000 in
set_option maxHeartbeats 4000000 in
theorem rget_at (x r g : Nat) (L : List Sl) (now : Int) (name : ByteArray) (w : World) (h : RT x w r g L) (hU : Uniq L) :
    Calls Try.prog 17 #[.pointer (some ⟨r, 0, none⟩), .int .i64 now, .string name] w fun e w' => ∃ v, e = .returned (.tuple #[v, .int .i64 (getT L now name), .int .i64 (getC L now name)]) ∧ OwnA w' w.heap.size v (getA L now name) ∧ Below w.heap.size w w' := by
  have H := hide h
  clear h
  have HW := hide (when_at now w)
  obtain ⟨N, hN⟩ : ∃ N, N = L.length := ⟨_, rfl⟩
  have hm := H.out.max
  rw [← hN] at hm
  by_cases hb : badNow now
  · have hg0 : got L now name = none := by unfold got; rw [if_pos hb]
    rw [show getT L now name = 0 by simp [getT, hg0], show getA L now name = [] by simp [getA, hg0], show getC L now name = 2 by simp [getC, hb]]
    rw [show decide (¬ badNow now) = false by simp [hb]] at HW
    clear hb hg0 hN
    go_enter Try.func17, Try.ntmps17
    go_wp2_with fail
    refine HW.out.mono ?_
    rintro e w1 ⟨rfl, rfl⟩
    go_wp2_with fail
    first | go_ret3 | go_ret2 | go_ret
    exact ⟨_, rfl, OwnA.nil _ _, Below.refl _ _⟩
  · rw [show decide (¬ badNow now) = true by simp [hb]] at HW
    have hn0 : 0 ≤ now := by unfold badNow at hb; omega
    have hn1 : now ≤ 1099511627776 := by unfold badNow at hb; omega
    obtain ⟨GT, hGT⟩ : ∃ GT, GT = getT L now name := ⟨_, rfl⟩
    obtain ⟨GA, hGA⟩ : ∃ GA, GA = getA L now name := ⟨_, rfl⟩
    obtain ⟨GC, hGC⟩ : ∃ GC, GC = getC L now name := ⟨_, rfl⟩
    rw [← hGT, ← hGA, ← hGC]
    have HGT := hide hGT
    have HGA := hide hGA
    have HGC := hide hGC
    have HBN := hide hb
    have HU := hide hU
    have HN := hide hN
    clear hGT hGA hGC hb hU hN
    go_enter Try.func17, Try.ntmps17
    go_wp2_with fail
    refine HW.out.mono ?_
    rintro e w1 ⟨rfl, rfl⟩
    go_wp2_with fail
    go_loopw [9] (fun v wr => ∃ j : Nat, j ≤ N ∧ v = .int .i64 j ∧ Hid (Below w.heap.size w wr) ∧ Hid (∀ k, k < j → ¬ ((at0 L k).name.size ≠ 0 ∧ (at0 L k).name = name ∧ now < (at0 L k).till))) (fun v _ => N - (intOf v).toNat)
    case atStart => exact ⟨0, Nat.zero_le _, rfl, Below.refl _ _, fun k hk => by omega⟩
    case round =>
      obtain ⟨j, hj, rfl, HB, HX⟩ := hrel
      have hT := H.out.below HB.out
      have hc0 := hT.cellR
      rw [← HN.out] at hc0
      by_cases hjn : j < N
      · have hd : decide ((j : Int) < (N : Int)) = true := decide_eq_true (by omega)
        have hjL : j < L.length := by rw [← HN.out]; exact hjn
        obtain ⟨v, c0, c1, c2, hov, _⟩ := hT.cells hjL
        have hok := H.out.ok _ _ (get_at0 hjL)
        obtain ⟨va, vc, rfl⟩ := hov.shape
        have HJL := hide hjL
        have hB1 := HB.out.alloc HB.out.size (.cells #[.string (at0 L j).name, .slice va (at0 L j).ads.length vc, .int .i64 (at0 L j).till] 71)
        by_cases hyes : (at0 L j).name.size ≠ 0 ∧ (at0 L j).name = name ∧ now < (at0 L j).till
        · have hgot := got_hit HU.out HBN.out hjL hyes.1 hyes.2.1 hyes.2.2
          have E1 : Hid (GT = (at0 L j).till - now) := HGT.out.trans (by simp [getT, hgot])
          have E2 : Hid (GA = (at0 L j).ads) := HGA.out.trans (by simp [getA, hgot])
          have E3 : Hid (GC = 0) := HGC.out.trans (by simp [getC, hgot, HBN.out])
          have z1 : ((at0 L j).name.toList == []) = false := by rw [ba_nil]; simp [hyes.1]
          have z2 : (at0 L j).name.toList.isEmpty = false := by rw [ba_emp]; simp [hyes.1]
          have z3 : ((at0 L j).name.toList == name.toList) = true := by rw [eq_ba]; simp [hyes.2.1]
          have z4 : decide (now < (at0 L j).till) = true := decide_eq_true hyes.2.2
          have ht := hyes.2.2
          have t1 := hok.top
          obtain ⟨va', vc', eva, hsrc, _⟩ := hov.src hok.byte
          simp only [Value.slice.injEq, true_and] at eva
          obtain ⟨rfl, rfl⟩ := eva
          have hBY := hok.byte
          have hfw := hok.few
          clear hok hov hT HX hyes
          generalize (at0 L j).ads = ads at c1 E2 hB1 hsrc hBY hfw
          obtain ⟨al, hal⟩ : ∃ al, al = ads.length := ⟨_, rfl⟩
          rw [← hal] at c1 hsrc hB1 hfw
          generalize (at0 L j).name = nj at c0 z1 z2 z3 hB1
          generalize (at0 L j).till = tj at c2 z4 hB1 ht t1 E1
          have own0 : OwnA (((wr.alloc (.cells #[.string nj, .slice va al vc, .int .i64 tj] 71)).alloc (.cells #[] 37)).drew) (wr.alloc (.cells #[.string nj, .slice va al vc, .int .i64 tj] 71)).heap.size (.slice (some ⟨(wr.alloc (.cells #[.string nj, .slice va al vc, .int .i64 tj] 71)).heap.size, 0, none⟩) 0 0) [] := (own_new37 _).keep fun _ _ => rfl
          obtain ⟨v2, w2, ap, ow, bl⟩ := run_appS own0 (hsrc.below ((((Below.refl _ _).alloc (Nat.le_refl _) _).alloc (by simp) (.cells #[] 37)).drew)) (by simp; omega) (by show _ ≤ (World.alloc _ _).heap.size; simp)
          rw [List.nil_append] at ow
          have hsz : (wr.alloc (.cells #[.string nj, .slice va al vc, .int .i64 tj] 71)).heap.size = wr.heap.size + 1 := by simp
          rw [hsz] at ap ow bl
          have hbb : w2.heap[wr.heap.size]? = some (.cells #[.string nj, .slice va al vc, .int .i64 tj] 71) := (bl.block _ (by omega)).trans (alloc_old _ (alloc_new _ _))
          have f1 : w2.cell? ⟨wr.heap.size, 1, none⟩ = some (.slice va al vc) := by simp [World.cell?, hbb]
          have f2 : w2.cell? ⟨wr.heap.size, 2, none⟩ = some (.int .i64 tj) := by simp [World.cell?, hbb]
          obtain ⟨q1, q2, q3⟩ := ap_of ap
          have OW : Hid (OwnA w2 w.heap.size v2 ads) := by
            refine ⟨ow.1, ?_⟩
            rcases ow.2 with h0 | ⟨y, cap, cur, hv, hx, hh, hrest⟩
            · exact Or.inl h0
            · exact Or.inr ⟨y, cap, cur, hv, by have := HB.out.size; omega, hh, hrest⟩
          have BL : Hid (Below w.heap.size w w2) := HB.out.trans ((((Below.refl wr.heap.size wr).alloc (Nat.le_refl _) _).alloc (by simp) _).drew.trans (bl.mono (by omega)) |>.mono HB.out.size)
          have hwr : IntKind.i64.wrap (tj - now) = tj - now := wrap_int _ (by omega) (by omega)
          have HWr := hide hwr
          clear hal own0 ap ow bl hsz hbb hwr hsrc hB1 hBY
          go_wp2_with fail
          go_region
          all_goals
            go_wp2_with fail
            first | go_ret3 | go_ret2 | go_ret
            exact ⟨v2, by first | (rw [E1.out, E3.out]; rfl) | (rw [E1.out, E3.out, HWr.out]; rfl), by rw [E2.out]; exact OW.out, BL.out⟩
        · have HX2 : Hid (∀ k, k < j + 1 → ¬ ((at0 L k).name.size ≠ 0 ∧ (at0 L k).name = name ∧ now < (at0 L k).till)) := fun k hk => by
            rcases Nat.lt_or_ge k j with h1 | h1
            · exact HX.out k h1
            · obtain rfl : k = j := by omega
              exact hyes
          have HB1 := hide hB1
          have key : (at0 L j).name.size = 0 ∨ ((at0 L j).name.size ≠ 0 ∧ (at0 L j).name ≠ name) ∨ ((at0 L j).name.size ≠ 0 ∧ (at0 L j).name = name ∧ ¬ now < (at0 L j).till) := by
            by_cases h1 : (at0 L j).name.size = 0
            · exact Or.inl h1
            · by_cases h2 : (at0 L j).name = name
              · exact Or.inr (Or.inr ⟨h1, h2, fun h3 => hyes ⟨h1, h2, h3⟩⟩)
              · exact Or.inr (Or.inl ⟨h1, h2⟩)
          clear hyes hok hov hT hB1 HX
          generalize (at0 L j).ads.length = al at c1 HB1
          generalize (at0 L j).name = nj at c0 key HB1
          generalize (at0 L j).till = tj at c2 key HB1
          rcases key with hz | ⟨hz, hne⟩ | ⟨hz, hne, ht⟩
          · have z1 : (nj.toList == []) = true := by rw [ba_nil]; simp [hz]
            have z2 : nj.toList.isEmpty = true := by rw [ba_emp]; simp [hz]
            clear hz
            go_wp2_with fail
            go_roundw
            case rel => exact ⟨j + 1, by omega, by go_num, HB1, HX2⟩
            case measure => simp [intOf]; omega
          · have z1 : (nj.toList == []) = false := by rw [ba_nil]; simp [hz]
            have z2 : nj.toList.isEmpty = false := by rw [ba_emp]; simp [hz]
            have z3 : (nj.toList == name.toList) = false := by rw [eq_ba]; simp [hne]
            clear hz hne
            go_wp2_with fail
            go_roundw
            case rel => exact ⟨j + 1, by omega, by go_num, HB1, HX2⟩
            case measure => simp [intOf]; omega
          · have z1 : (nj.toList == []) = false := by rw [ba_nil]; simp [hz]
            have z2 : nj.toList.isEmpty = false := by rw [ba_emp]; simp [hz]
            have z3 : (nj.toList == name.toList) = true := by rw [eq_ba]; simp [hne]
            have z4 : decide (now < tj) = false := decide_eq_false ht
            clear hz hne ht
            go_wp2_with fail
            go_roundw
            case rel => exact ⟨j + 1, by omega, by go_num, HB1, HX2⟩
            case measure => simp [intOf]; omega
      · have hd : decide ((j : Int) < (N : Int)) = false := decide_eq_false (by omega)
        have hgot := got_miss H.out.ok HBN.out (name := name) (fun k hk => HX.out k (by have := HN.out; omega))
        have E1 : Hid (GT = 0) := HGT.out.trans (by simp [getT, hgot])
        have E2 : Hid (GA = []) := HGA.out.trans (by simp [getA, hgot])
        have E3 : Hid (GC = 5) := HGC.out.trans (by simp [getC, hgot, HBN.out])
        clear hgot hT
        go_wp2_with fail
        first | go_ret3 | go_ret2 | go_ret
        exact ⟨_, by rw [E1.out, E3.out]; rfl, by rw [E2.out]; exact OwnA.nil _ _, HB.out⟩
theorem wpList_app_run {P : Program} (w : World) {ops : Array Oper} {rest : List Oper} {o : Oper} {a : Act} {Q : Exit → Act → World → Prop} (hgd : o.guard = none) (d s : Operand) (t t' : TypeId)
    (ho : o.op = .call { callee := .builtin .append, args := #[d, s], argTypes := #[t, t'] }) (v u : Value) (hd : a.eval d = v) (hs : a.eval s = u) {v' : Value} {w' : World}
    (hr : (Builtin.append_ #[t, t'] o.type #[v, u]).run P w = .ok v' w') (h : wpList P ops Q rest (a.put o.dst v') w') : wpList P ops Q (o :: rest) a w := by
  refine wpList_plain hgd fun K hK => ?_
  unfold Oper.wp execOp
  simp only [ho, resolve, invoke, builtin, Sem.run_bind, Sem.run_pure, Result.andThen_ok, List.map_toArray, List.map_cons, List.map_nil, hd, hs, hr]
  exact hK _ _ h
/-- The call's own texts. -/
def OwnT (w : World) (B : Nat) (v : Value) (l : List ByteArray) : Prop := w.ownsRow B 9 1 v l.length (rowT l)
theorem OwnT.block {w : World} {B : Nat} {v : Value} {l : List ByteArray} (h : OwnT w B v l) {g : Nat} (hg : v.ownBlock = some g) : B ≤ g ∧ ∃ cur, w.heap[g]? = some (.cells cur 9) := by
  rcases h.2 with ⟨rfl, _⟩ | ⟨x, cap, cur, rfl, hx, hh, hrest⟩
  · cases hg
  · simp [Value.ownBlock] at hg
    subst hg
    exact ⟨hx, cur, hh⟩
theorem OwnT.keep {w w' : World} {B : Nat} {v : Value} {l : List ByteArray} (h : OwnT w B v l) (k : ∀ g, v.ownBlock = some g → w'.heap[g]? = w.heap[g]?) : OwnT w' B v l := by
  refine ⟨h.1, ?_⟩
  rcases h.2 with h0 | ⟨x, cap, cur, hv, hx, hh, hrest⟩
  · exact Or.inl h0
  · exact Or.inr ⟨x, cap, cur, hv, hx, (k x (by rw [hv]; rfl)).trans hh, hrest⟩
theorem OwnT.below {w w' : World} {B : Nat} {v : Value} {l : List ByteArray} (h : OwnT w B v l) (k : Below w.heap.size w w') : OwnT w' B v l :=
  h.keep fun g hg => by obtain ⟨_, cur, hh⟩ := h.block hg; exact k.block g (lt_of_some hh)
theorem OwnT.shape {w : World} {B : Nat} {v : Value} {l : List ByteArray} (h : OwnT w B v l) : ∃ a cap, v = .slice a l.length cap := by
  rcases h.2 with ⟨rfl, h0⟩ | ⟨g, cap, cur, rfl, _⟩
  · exact ⟨none, 0, by rw [h0]⟩
  · exact ⟨_, cap, rfl⟩
theorem OwnT.src {w : World} {B : Nat} {v : Value} {l : List ByteArray} (h : OwnT w B v l) : ∃ a cap, v = .slice a l.length cap ∧ SrcT w a l.length cap l := by
  rcases h.2 with ⟨rfl, h0⟩ | ⟨g, cap, cur, rfl, hx, hh, hc, hm, hs, ht⟩
  · have : l = [] := List.length_eq_zero_iff.1 h0
    subst this
    exact ⟨none, 0, rfl, rfl, Nat.le_refl _, Nat.zero_le _, fun h => by simp at h⟩
  · refine ⟨_, cap, rfl, ⟨rfl, hc, hm, fun _ => ⟨g, 0, rfl, lt_of_some hh, fun j u hu => ?_⟩⟩⟩
    have hj := (List.getElem?_eq_some_iff.1 hu).1
    rw [rowT_length] at hj
    have : cur.toList[j]? = some u := by rw [← hu, ← ht, List.getElem?_take, if_pos (by omega)]
    rw [Nat.zero_add]
    simp only [World.cell?, hh]
    simpa using this
theorem own_newT (w : World) : OwnT (w.alloc (.cells #[] 9)) w.heap.size (.slice (some ⟨w.heap.size, 0, none⟩) 0 0) [] :=
  ⟨rfl, Or.inr ⟨w.heap.size, 0, #[], rfl, Nat.le_refl _, alloc_new _ _, by simp, Nat.zero_le _, by simp, by simp [rowT]⟩⟩
theorem info9p : ∃ i, Try.prog.info? 9 = some i ∧ i.zero = some (.string noN) ∧ i.size = 1 ∧ i.bytes = 16 := info_parts (by kernel_rfl)
theorem run_appT {w : World} {B : Nat} {v : Value} {l : List ByteArray} (h : OwnT w B v l) (d : ByteArray) (hl : l.length ≤ 4096) (hB : B ≤ w.heap.size) :
    ∃ v' w', (Builtin.append_ #[44, 44] 44 #[v, .slice (some ⟨w.heap.size, 0, none⟩) 1 1]).run Try.prog (w.alloc (.cells #[.string d] 9)) = .ok v' w' ∧ OwnT w' B v' (l ++ [d]) ∧ Below B w w' := by
  obtain ⟨i, hi, hz, hsz, hby⟩ := info9p
  have ha := (Below.refl w.heap.size w).alloc (Nat.le_refl _) (.cells #[.string d] 9)
  obtain ⟨v', w', hr, ho, hg, _⟩ := run_append_own (P := Try.prog) (w.alloc (.cells #[.string d] 9)) B 44 44 9 i _ 1 16 Try.underlying44 hi hz hsz hby rfl (by omega) v l.length (rowT l) (h.below ha) ⟨w.heap.size, 0, none⟩ 1 1 (rowT [d]) rfl
    (fun j u hu => by
      rw [add_none, Nat.zero_add]
      have hn : (w.alloc (.cells #[.string d] 9)).heap[w.heap.size]? = some (.cells #[.string d] 9) := alloc_new _ _
      simp only [World.cell?, hn]
      rw [← hu]
      simp [rowT]) (rowT_one _) (by unfold maxLen; omega) (by omega) (by simp; omega)
  refine ⟨v', w', hr, ?_, (ha.mono hB).trans ((Below.refl B _).grown hg (by simp; omega) (fun k hk => (h.block hk).1))⟩
  unfold OwnT
  rw [rowT_append, List.length_append]
  exact ho
set_option maxRecDepth 100000 in
set_option maxHeartbeats 4000000 in
theorem rlist_at (x r g : Nat) (L : List Sl) (w : World) (h : RT x w r g L) :
    Calls Try.prog 22 #[.pointer (some ⟨r, 0, none⟩)] w fun e w' => ∃ a c, e = .returned (.slice a L.length c) ∧ SrcT w' a L.length c (nms L) ∧ Below w.heap.size w w' := by
  have hm := h.max
  obtain ⟨N, hN⟩ : ∃ N, N = L.length := ⟨_, rfl⟩
  rw [← hN] at hm ⊢
  have H := hide h
  have HN := hide hN
  clear h hN
  go_enter Try.func22, Try.ntmps22
  go_wp2_with fail
  go_loopw [3, 4] (fun u v wr => ∃ j : Nat, j ≤ N ∧ v = .int .i64 j ∧ Hid (OwnT wr w.heap.size u (nms (L.take j))) ∧ Hid (Below w.heap.size w wr)) (fun _ v _ => N - (intOf v).toNat)
  case atStart => exact ⟨0, Nat.zero_le _, rfl, own_newT w, (Below.refl _ _).alloc (Nat.le_refl _) _⟩
  case round =>
    obtain ⟨j, hj, rfl, HO, HB⟩ := hrel
    have hT := H.out.below HB.out
    have hc0 := hT.cellR
    rw [← HN.out] at hc0
    by_cases hjn : j < N
    · have hd : decide ((j : Int) < (N : Int)) = true := decide_eq_true (by omega)
      have hjL : j < L.length := by rw [← HN.out]; exact hjn
      obtain ⟨v, c0, _, _, _, _⟩ := hT.cells hjL
      obtain ⟨ua, uc, hu⟩ := HO.out.shape
      subst hu
      obtain ⟨v2, w2, ap, ow, bl⟩ := run_appT HO.out (at0 L j).name (by simp [nms]; omega) HB.out.size
      have OW : Hid (OwnT w2 w.heap.size v2 (nms (L.take (j + 1)))) := by
        show OwnT _ _ _ _
        rw [show nms (L.take (j + 1)) = nms (L.take j) ++ [(at0 L j).name] by
          rw [show L.take (j + 1) = L.take j ++ [at0 L j] by rw [List.take_succ_eq_append_getElem hjL]; simp [at0, hjL]]
          simp only [nms, List.map_append, List.map_cons, List.map_nil]]
        exact ow
      have BL := hide (HB.out.trans bl)
      generalize (at0 L j).name = nj at c0 ap
      generalize (nms (L.take j)).length = nl at ap ⊢
      have AP := hide ap
      clear hT ow bl HO hjL ap
      go_wp2_with (refine wpList_app_run _ rfl _ _ 44 44 rfl (.slice ua nl uc) (.slice (some ⟨wr.heap.size, 0, none⟩) 1 1) rfl rfl AP.out ?_)
      go_roundw
      case rel => exact ⟨j + 1, by omega, by go_num, OW, BL⟩
      case measure => simp [intOf]; omega
    · have hd : decide ((j : Int) < (N : Int)) = false := decide_eq_false (by omega)
      obtain rfl : j = N := by omega
      have HE : Hid (nms (L.take j) = nms L) := by show _ = _; rw [HN.out, List.take_length]
      obtain ⟨ua, uc, hu, hs⟩ := HO.out.src
      subst hu
      rw [HE.out, show (nms L).length = j by simp [nms]; exact HN.out.symm] at hs
      rw [HE.out, show (nms L).length = j by simp [nms]; exact HN.out.symm]
      have HS := hide hs
      clear hT hs HO
      go_wp2_with fail
      go_ret
      exact ⟨_, _, rfl, HS.out, HB.out⟩
end Go.Proofs.Ytmolcipbopaniaa
