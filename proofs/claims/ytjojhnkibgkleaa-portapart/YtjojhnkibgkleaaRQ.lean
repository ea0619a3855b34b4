/-
  The reference ring's Take and Put: what they do in memory; conditions as each theorem has them.
-/
import Derived.Test.YtjojhnkibgkleaaRP
set_option linter.unusedSimpArgs false
set_option linter.unusedVariables false
set_option maxRecDepth 8000
namespace Go.Proofs.Ytjojhnkibgkleaa
open Go.RowKit

theorem rhd_set1 {w : World} {y n : Nat} {v : Value} {inn out : Int} (h : w.heap[y]? = some (rhd n v inn out)) (u : Value) : (w.setCell ⟨y, 1, none⟩ u).heap[y]? = some (rhd n u inn out) := by
  unfold rhd at h ⊢
  rw [heap_setCell_same h]
  simp
theorem rhd_set2 {w : World} {y n : Nat} {v : Value} {inn out : Int} (h : w.heap[y]? = some (rhd n v inn out)) (u : Int) : (w.setCell ⟨y, 2, none⟩ (.int .i64 u)).heap[y]? = some (rhd n v u out) := by
  unfold rhd at h ⊢
  rw [heap_setCell_same h]
  simp
theorem rhd_set3 {w : World} {y n : Nat} {v : Value} {inn out : Int} (h : w.heap[y]? = some (rhd n v inn out)) (u : Int) : (w.setCell ⟨y, 3, none⟩ (.int .i64 u)).heap[y]? = some (rhd n v inn u) := by
  unfold rhd at h ⊢
  rw [heap_setCell_same h]
  simp

/-- The operation 'append' as one step of a region that draws its order, where its run is known by an equation. -/
theorem step_app_run {P : Program} {ops : Array Oper} {o : Oper} {a : Act} {w : World} {K : Act → World → Prop} {Q : Exit → Act → World → Prop} {E : Prop} (hgd : o.guard = none) (d s : Operand) (t t' : TypeId)
    (ho : o.op = .call { callee := .builtin .append, args := #[d, s], argTypes := #[t, t'] }) (v u : Value) (hd : a.eval d = v) (hs : a.eval s = u) {v' : Value} {w' : World}
    (hr : (Builtin.append_ #[t, t'] o.type #[v, u]).run P w = .ok v' w') (hK : K (a.put o.dst v') w') :
    if Region.wanted o (yielded ops a.tmps) = true then Oper.wp P o a w K Q else E := by
  have hw : Region.wanted o (yielded ops a.tmps) = true := by simp [Region.wanted, hgd]
  rw [if_pos hw]
  unfold Oper.wp execOp
  simp only [ho, resolve, invoke, builtin, Sem.run_bind, Sem.run_pure, Result.andThen_ok, List.map_toArray, List.map_cons, List.map_nil, hd, hs, hr]
  exact hK

/-- What is left of l, as the reference cuts it out of its slice. -/
theorem cut_src {w : World} {h : Nat} {v : Value} {l : List Int} (o : OwnV w h v l) (hb : ∀ x ∈ l, 0 ≤ x ∧ x < 256) (t : Nat) (ht : t ≤ l.length) :
    ∃ a cap, v = .slice a l.length cap ∧ l.length ≤ cap ∧ Src w (if cap = t then a else a.map (fun x => x.add t)) (l.length - t) (cap - t) (l.drop t) := by
  rcases o with ⟨rfl, rfl⟩ | ⟨cap, cur, rfl, h2, h3, h4, h5, h6⟩
  · obtain rfl : t = 0 := by simpa using ht
    exact ⟨none, 0, rfl, Nat.le_refl _, ⟨rfl, Nat.le_refl _, Nat.zero_le _, fun _ => rfl, fun h => by simp at h, by simp⟩⟩
  · refine ⟨_, cap, rfl, h3, ⟨by simp, by omega, by omega, fun e => (by split at e <;> simp at e), fun h0 => ?_, fun x hx => hb x (List.mem_of_mem_drop hx)⟩⟩
    rw [if_neg (by omega)]
    refine ⟨h, t, by simp [add_none], fun i hi => ?_⟩
    have e1 : cur[t + i]? = (vals l)[t + i]? := by rw [← h6, List.getElem?_take, if_pos (by omega)]; simp
    simp only [World.cell?, h2]
    rw [getD_drop']
    simp [e1, vals, List.getD, show t + i < l.length by omega]

set_option maxRecDepth 100000 in
set_option maxHeartbeats 1000000 in
theorem reftake (y n : Nat) (inn out k : Int) (l : List Int) (h : Nat) (v : Value) (w : World) (hr : IsRef w y n inn out l h v) :
    Calls Try.prog 87 #[.pointer (some ⟨y, 0, none⟩), .int .i64 k] w fun e w' => ∃ h' v' ho vo, e = .returned vo ∧ OwnAt w' ho vo (l.take (min k.toNat l.length)) ∧ w.heap.size ≤ ho ∧
      IsRef w' y n inn ((out + (min k.toNat l.length : Nat)) % 4294967296) (l.drop (min k.toNat l.length)) h' v' ∧ w.heap.size ≤ h' ∧ Kept y y w w' := by
  have HR := hide hr
  have hyl := lt_of_some hr.head
  have hmx := hr.max
  have hft := hr.fits
  have ho0 := hr.o0
  have ho1 := hr.o1
  have hpk := refpeek y n inn out k l h v w hr
  obtain ⟨t, ht⟩ : ∃ t, t = min k.toNat l.length := ⟨_, rfl⟩
  rw [← ht] at hpk ⊢
  have htl : t ≤ l.length := by omega
  have HP := hide hpk
  clear hr hpk ht
  go_enter Try.func87, Try.ntmps87
  go_wp2_with fail
  refine HP.out.mono ?_
  rintro e w1 ⟨ho, vo, rfl, hown, hho, hb⟩
  have HB := hide hb
  have hsz := hb.size
  have HO := hide hown
  obtain ⟨capo, evo, _⟩ := hown.src (fun x hx => HR.out.byte x (List.mem_of_mem_take hx))
  rw [List.length_take, show min t l.length = t by omega] at evo
  subst evo
  have HH1 : Hid (w1.heap[y]? = some (rhd n v inn out)) := by show _ = _; rw [hb.block y hyl]; exact HR.out.head
  have HV1 : Hid (OwnV w1 h v l) := HR.out.own.keep fun hl => hb.block h hl
  clear hown hb HP
  obtain ⟨a, cap, ev, hlc, hcut⟩ := cut_src (HV1.out.keep (w' := w1.alloc (.cells #[] 5)) fun hl => Below.heap_alloc _ _ _ hl) HR.out.byte t htl
  subst ev
  obtain ⟨v2, w2, h2, hrun, hown2, hw2, hk2⟩ := run_app_at 45 (own_at_new w1) hcut (by simp; omega)
  rw [List.nil_append] at hown2
  obtain ⟨cap2, ev2, _⟩ := hown2.src (fun x hx => HR.out.byte x (List.mem_of_mem_drop hx))
  rw [List.length_drop] at ev2
  subst ev2
  have HRUN := hide hrun
  have hyl1 : y < w1.heap.size := by omega
  have HH2 : Hid (w2.heap[y]? = some (rhd n (.slice a l.length cap) inn out)) := hk2.at_ (alloc_old _ HH1.out) (by omega) (by omega)
  obtain ⟨d0, d1, d2, d3⟩ := rhd_cells HH1.out
  obtain ⟨e0, e1, e2, e3⟩ := rhd_cells HH2.out
  have ef := rhd_frozen HH2.out
  have HO2 := hide hown2
  have HK2 : Hid (Below w.heap.size w w2) := (HB.out.alloc hsz _).trans (hk2.below (by omega) (by omega) (by simp; omega))
  have HOo : Hid (OwnAt w2 ho (.slice (some ⟨ho, 0, none⟩) t capo) (l.take t)) := HO.out.keep (by rw [hk2.block ho (by have := HO.out.lt; simp; omega) (by have := HO.out.lt; omega) (by have := HO.out.lt; omega), Below.heap_alloc _ _ _ HO.out.lt])
  clear hrun hown2 hk2 hcut
  go_wp2_with (at_builtin; refine wpList_app_run _ rfl _ _ _ _ rfl _ _ rfl rfl HRUN.out ?_)
  all_goals
    go_ret
    have hh2 : w.heap.size ≤ h2 := by simp at hw2; omega
    refine ⟨h2, _, ho, _, rfl, HOo.out.keep ?_, hho, ⟨rhd_set3 (rhd_set1 HH2.out _) _, Or.inr (HO2.out.keep ?_), by omega, fun x hx => HR.out.byte x (List.mem_of_mem_drop hx), HR.out.i0, HR.out.i1, by omega, by omega, by rw [List.length_drop]; omega, hmx⟩, hh2, ((Kept.of_below HK2.out).set _ _).set _ _⟩
    · rw [Below.heap_setCell _ _ _ _ (by simp; omega), Below.heap_setCell _ _ _ _ (by simp; omega)]
    · rw [Below.heap_setCell _ _ _ _ (by simp; omega), Below.heap_setCell _ _ _ _ (by simp; omega)]

set_option maxRecDepth 100000 in
set_option maxHeartbeats 1000000 in
theorem refput (y n : Nat) (inn out : Int) (l : List Int) (h : Nat) (v : Value) (a : Option Addr) (len cap : Nat) (bs : List Int) (w : World) (hr : IsRef w y n inn out l h v) (hs : Src w a len cap bs) (hlm : len ≤ 9223372036854775807)
    (hap : ∀ b o, a = some ⟨b, o, none⟩ → 0 < len → b ≠ y ∧ b ≠ h) :
    Calls Try.prog 85 #[.pointer (some ⟨y, 0, none⟩), .slice a len cap] w fun e w' => ∃ h' v', e = .returned (.int .i64 (min len (n - l.length) : Nat)) ∧
      IsRef w' y n ((inn + (min len (n - l.length) : Nat)) % 4294967296) out (l ++ bs.take (min len (n - l.length))) h' v' ∧ (h' = h ∨ w.heap.size ≤ h') ∧ Kept y h w w' := by
  have HR := hide hr
  have HS := hide hs
  have HA := hide hap
  have hyl := lt_of_some hr.head
  have hmx := hr.max
  have hft := hr.fits
  have hi0 := hr.i0
  have hi1 := hr.i1
  have hlc := hs.hcap
  have hbl := hs.hlen
  have hyh := hr.ne
  have HBL := hide hbl
  clear hr hs hap hbl
  go_enter Try.func85, Try.ntmps85
  go_wp2_with fail
  go_loopw [5] (fun i wr => ∃ (j h' : Nat) (v' : Value), j ≤ min len (n - l.length) ∧ i = .int .i64 j ∧ Hid (wr.heap[y]? = some (rhd n v' inn out)) ∧ Hid (OwnV wr h' v' (l ++ bs.take j)) ∧ (h' = h ∨ w.heap.size ≤ h') ∧ Hid (Kept y h w wr)) (fun i _ => len - (intOf i).toNat)
  case atStart => exact ⟨0, h, v, Nat.zero_le _, rfl, HR.out.head, by simpa [Hid] using HR.out.own, Or.inl rfl, Kept.refl _ _ _⟩
  case round =>
    obtain ⟨j, h', v', hj, rfl, HH, HV, hh', HK⟩ := hrel
    have hll : (l ++ bs.take j).length = l.length + j := by rw [List.length_append, List.length_take, HBL.out]; omega
    have hhy : h' ≠ y := by omega
    obtain ⟨av, cv, ev, hcv, hcl⟩ := HV.out.form
    rw [hll] at ev
    subst ev
    obtain ⟨c0, c1, c2, c3⟩ := rhd_cells HH.out
    have cf := rhd_frozen HH.out
    have hksz := HK.out.size
    clear hcl
    by_cases h1 : j < len
    · by_cases h2 : l.length + j < n
      · obtain ⟨b, o, ea, hcell⟩ := HS.out.lies (by omega)
        subst ea
        obtain ⟨hbn1, hbn2⟩ := HA.out b o rfl (by omega)
        have hbc := hcell j h1
        obtain ⟨x, hx⟩ : ∃ x, x = bs.getD j 0 := ⟨_, rfl⟩
        rw [← hx] at hbc
        have hbl : b < w.heap.size := by simpa using lt_of_cell hbc
        have hbr : wr.cell? ⟨b, o + j, none⟩ = some (.int .u8 x) := by
          rw [World.cell?_of_block (w := w) (HK.out.block b hbl hbn1 hbn2)]
          exact hbc
        have HX := hide hx
        clear hcell hbc hx
        go_wp2_with fail
        go_quiet (fail)
        go_wp2_with fail
        have hyr := lt_of_some HH.out
        have hS : Src ((wr.drewN (nq + 1)).alloc (.cells (vals [x]).toArray 5)) (some ⟨wr.heap.size, 0, none⟩) 1 1 [x] := src_block (alloc_new _ _) rfl (by omega) (by intro z hz; simp at hz; subst hz; rw [HX.out]; exact getD_byte HS.out.byte j)
        obtain ⟨v2, w2, h2', hrun, hown2, hw2, hk2⟩ := run_app_v 45 (HV.out.keep (w' := (wr.drewN (nq + 1)).alloc (.cells (vals [x]).toArray 5)) fun hl => Below.heap_alloc _ _ _ hl) hS (by rw [hll]; omega)
        obtain ⟨a2, cp2, ev2, _, _⟩ := hown2.form
        rw [List.length_append, hll, show l.length + j + [x].length = l.length + j + 1 from rfl] at ev2
        subst ev2
        have HRUN := hide hrun
        have HH2 : Hid (w2.heap[y]? = some (rhd n (.slice av (l.length + j) cv) inn out)) := hk2.at_ (alloc_old _ HH.out) (by omega) (by omega)
        obtain ⟨d0, d1, d2, d3⟩ := rhd_cells HH2.out
        have df := rhd_frozen HH2.out 1
        have hbr2 : w2.cell? ⟨b, o + j, none⟩ = some (.int .u8 x) := by
          rw [World.cell?_of_block (w := wr) ((hk2.block b (by simp; omega) (by omega) (by omega)).trans (Below.heap_alloc _ _ _ (by simp; omega)))]
          exact hbr
        have hh2 : h2' = h' ∨ h2' = wr.heap.size + 1 := by simpa using hw2
        have HV2 : Hid (OwnV w2 h2' (.slice a2 (l.length + j + 1) cp2) (l ++ bs.take (j + 1))) := by
          show OwnV _ _ _ _
          have : bs.take (j + 1) = bs.take j ++ [x] := by
            rw [List.take_succ_eq_append_getElem (by rw [HBL.out]; exact h1), HX.out]
            simp [List.getD, show j < bs.length by rw [HBL.out]; exact h1]
          rw [this, ← List.append_assoc]
          exact hown2
        have HK2 : Hid (Kept y h w w2) := ⟨hk2.os.trans HK.out.os, hk2.tape.trans HK.out.tape, hk2.output.trans HK.out.output, by have := hk2.size; simp at this; omega, fun k hk e1 e2 => (hk2.block k (by simp; omega) (by omega) (by omega)).trans ((Below.heap_alloc (wr.drewN (nq + 1)) _ k (by simp; omega)).trans (HK.out.block k hk e1 e2))⟩
        clear hw2
        have c1a : ((wr.drewN (nq + 1)).alloc (.cells #[.int .u8 x] 5)).cell? ⟨y, 1, none⟩ = some (.slice av (l.length + j) cv) := by
          rw [World.cell?_of_block (w := wr) (Below.heap_alloc (wr.drewN (nq + 1)) _ _ hyr)]
          exact c1
        clear hS hrun hown2 hk2
        go_region_law (refine step_app_run (by rfl) _ _ _ _ (by rfl) _ _ (by rfl) (by rfl) HRUN.out ?_)
        all_goals
          go_wp2_with fail
          go_roundw
          case rel => exact ⟨j + 1, h2', _, by omega, by go_num, rhd_set1 HH2.out _, HV2.out.keep (fun _ => Below.heap_setCell _ _ _ _ (by simp; omega)), by omega, HK2.out.setCell (Or.inl rfl) _⟩
          case measure => simp [intOf]; omega
      · have hjm : min len (n - l.length) = j := by omega
        have HJ := hide hjm
        clear hjm
        go_wp2_with fail
        go_quiet (fail)
        go_wp2_with fail
        go_ret
        rw [HJ.out]
        refine ⟨h', _, rfl, ⟨rhd_set2 (w := wr.drewN nq) HH.out _, HV.out.keep (fun _ => Below.heap_setCell (wr.drewN nq) _ _ _ (by simp; omega)), hhy, ?_, by omega, by omega, HR.out.o0, HR.out.o1, by rw [hll]; omega, hmx⟩, hh', (HK.out.drewN nq).setCell (Or.inl rfl) _⟩
        intro z hz
        rcases List.mem_append.1 hz with hz | hz
        · exact HR.out.byte z hz
        · exact HS.out.byte z (List.mem_of_mem_take hz)
    · have hjm : min len (n - l.length) = j := by omega
      have HJ := hide hjm
      clear hjm
      go_wp2_with fail
      go_quiet (fail)
      go_wp2_with fail
      go_ret
      rw [HJ.out]
      refine ⟨h', _, rfl, ⟨rhd_set2 (w := wr.drewN nq) HH.out _, HV.out.keep (fun _ => Below.heap_setCell (wr.drewN nq) _ _ _ (by simp; omega)), hhy, ?_, by omega, by omega, HR.out.o0, HR.out.o1, by rw [hll]; omega, hmx⟩, hh', (HK.out.drewN nq).setCell (Or.inl rfl) _⟩
      intro z hz
      rcases List.mem_append.1 hz with hz | hz
      · exact HR.out.byte z hz
      · exact HS.out.byte z (List.mem_of_mem_take hz)

end Go.Proofs.Ytjojhnkibgkleaa
