/-
  FieldsParted's walk: both parts of a list go in step; conditions as each theorem has them.
-/
import Derived.Test.YtffjhhacegnhmaaDoorOW
set_option linter.unusedSimpArgs false
set_option linter.unusedVariables false
namespace Go.Proofs.YtffjhhacegnhmaaDoor
open Go.RowKit

theorem fd_beq (f g : Fd) (hf : (∀ x ∈ f.1, x < 256) ∧ ∀ x ∈ f.2, x < 256) (hg : (∀ x ∈ g.1, x < 256) ∧ ∀ x ∈ g.2, x < 256) : ((strN f.1).toList == (strN g.1).toList && (strN f.2).toList == (strN g.2).toList) = decide (f = g) := by
  rw [toList_two _ _ hf.1 hg.1, toList_two _ _ hf.2 hg.2]
  obtain ⟨a, b⟩ := f
  obtain ⟨c, d⟩ := g
  by_cases h1 : a = c
  · by_cases h2 : b = d
    · subst h1 h2; simp
    · simp [h1, h2]
  · simp [h1]
/-- How far both parts are, behind the first k fields. -/
theorem step_both (p : Fd → Bool) (fs : List Fd) (k : Nat) (f : Fd) (hk : fs[k]? = some f) :
    (p f = true → (fs.filter p)[((fs.take k).filter p).length]? = some f ∧ (∀ g, (fs.filter fun f => !p f)[((fs.take k).filter fun f => !p f).length]? = some g → g ≠ f) ∧ ((fs.take (k + 1)).filter p).length = ((fs.take k).filter p).length + 1 ∧ ((fs.take (k + 1)).filter fun f => !p f).length = ((fs.take k).filter fun f => !p f).length) ∧
    (p f = false → (fs.filter fun f => !p f)[((fs.take k).filter fun f => !p f).length]? = some f ∧ (∀ g, (fs.filter p)[((fs.take k).filter p).length]? = some g → g ≠ f) ∧ ((fs.take (k + 1)).filter p).length = ((fs.take k).filter p).length ∧ ((fs.take (k + 1)).filter fun f => !p f).length = ((fs.take k).filter fun f => !p f).length + 1) := by
  constructor
  · intro hp
    refine ⟨filter_hit p fs k f hk hp, fun g hg e => ?_, ?_, ?_⟩
    · have := filter_other (fun f => !p f) fs hg
      rw [e, hp] at this; simp at this
    · rw [filter_len p fs k f hk, if_pos hp]
    · rw [filter_len (fun f => !p f) fs k f hk, if_neg (by simp [hp])]; rfl
  · intro hp
    refine ⟨filter_hit (fun f => !p f) fs k f hk (by simp [hp]), fun g hg e => ?_, ?_, ?_⟩
    · have := filter_other p fs hg
      rw [e, hp] at this; cases this
    · rw [filter_len p fs k f hk, if_neg (by simp [hp])]; rfl
    · rw [filter_len (fun f => !p f) fs k f hk, if_pos (by simp [hp])]
theorem somE_true {fs : List Fd} (h : fs.length ≤ 64) : somE fs true = (fs.filter (fun f => hopB fs f.1), 0) := by
  unfold somE
  rw [if_neg (by omega)]
  congr 1
  apply List.filter_congr
  intro f _
  simp
theorem somE_false {fs : List Fd} (h : fs.length ≤ 64) : somE fs false = (fs.filter (fun f => !hopB fs f.1), 0) := by
  unfold somE
  rw [if_neg (by omega)]
  congr 1
  apply List.filter_congr
  intro f _
  cases hopB fs f.1 <;> rfl
theorem filter_both {α : Type} (p : α → Bool) (l : List α) : (l.filter p).length + (l.filter fun f => !p f).length = l.length := by
  induction l with
  | nil => rfl
  | cons a r ih =>
    cases h : p a with
    | true => simp [List.filter_cons, h]; omega
    | false => simp [List.filter_cons, h]; omega
theorem keep_again {fs : List Fd} (h : fs.length ≤ 64) : somE (somE fs false).1 false = (somE fs false) := by
  have hl : (somE fs false).1.length ≤ 64 := by
    rw [somE_false h]
    exact Nat.le_trans (List.length_filter_le _ _) h
  have := keep_keep fs
  have e : (somE fs false).1 = fs.filter fun f => hopB fs f.1 == false := by unfold somE; rw [if_neg (by omega)]
  have e2 : somE fs false = (fs.filter (fun f => hopB fs f.1 == false), 0) := by unfold somE; rw [if_neg (by omega)]
  rw [e2]
  rw [e] at hl
  unfold somE
  rw [if_neg (show ¬ 64 < (fs.filter (fun f => hopB fs f.1 == false)).length by omega)]
  simp only [this]
theorem few_filter {fs : List Fd} (p : Fd → Bool) (h : Few fs) : Few (fs.filter p) := by
  refine ⟨fun f hf => h.name f (List.mem_filter.1 hf).1, ?_⟩
  have : ∀ (l : List Fd), ((l.filter p).map fun f => f.2.length + 1).sum ≤ (l.map fun f => f.2.length + 1).sum := by
    intro l
    induction l with
    | nil => simp
    | cons f r ih =>
      rw [List.filter_cons]
      split
      · simp only [List.map_cons, List.sum_cons]; omega
      · simp only [List.map_cons, List.sum_cons]; omega
  exact Nat.le_trans (this fs) h.all
theorem okB_filter {fs : List Fd} (p : Fd → Bool) (h : okB fs) : okB (fs.filter p) := fun f hf => h f (List.mem_filter.1 hf).1
set_option maxRecDepth 100000 in
set_option maxHeartbeats 8000000 in
theorem parted_walk (a : Option Addr) (n c : Nat) (fs : List Fd) (w : World) (hV : Vars w) (h : SrcF w a n c fs) (hsum : (fs.map fun f => f.1.length + f.2.length + 3).sum ≤ 1048576) :
    Calls Tryd.prog 5 #[.slice a n c] w fun e w' => e = .returned (.bool true) ∧ Below w.heap.size w w' := by
  obtain ⟨hfew, hfl⟩ := few_sum hsum
  have hl := h.hlen
  have hcl := h.hcap
  have hmx := h.hmax
  unfold maxLen at hmx
  rw [hl] at hfl
  have H := hide h
  have HV := hide hV
  have HFEW := hide hfew
  have HWK := hide (works_at w hV)
  have HHO := hide (fun W hv hs => hops_at a n c fs W hv hs hfew)
  have HKE := hide (fun W hv hs => keep_at a n c fs W hv hs hfew)
  have HL := hide hl
  clear h hV hfew hsum hl
  go_enter Tryd.func5, Tryd.ntmps5
  go_wp2_with fail
  refine HWK.out.mono ?_
  rintro e w1 ⟨rfl, k1⟩
  have B1 := hide k1
  clear k1 HWK
  go_wp2_with fail
  refine (HHO.out _ (HV.out.below B1.out) (H.out.below B1.out)).mono ?_
  rintro e w2 ⟨v2, rfl, o2, k2⟩
  have B2 := hide (B1.out.trans (k2.mono B1.out.size))
  have O2 := hide o2
  clear k2 o2 HHO
  by_cases h64 : 64 < n
  · have E1 : somE fs true = ([], 3) := by unfold somE; rw [if_pos (by rw [HL.out]; exact h64)]
    have E2 : somE fs false = ([], 3) := by unfold somE; rw [if_pos (by rw [HL.out]; exact h64)]
    rw [E1] at O2 ⊢
    rw [E2] at HKE
    obtain ⟨x1, c1, rfl, s1, _⟩ := O2.out.src (by intro f hf; simp at hf)
    clear E1 E2 O2 s1
    have q1 : decide (64 < (n : Int)) = true := decide_eq_true (by omega)
    have q2 : decide (64 < n) = true := decide_eq_true h64
    go_wp2_with fail
    refine (HKE.out _ (HV.out.below B2.out) (H.out.below B2.out)).mono ?_
    rintro e w3 ⟨v3, rfl, o3, k3⟩
    have B3 := hide (B2.out.trans (k3.mono B2.out.size))
    obtain ⟨x3, c3, rfl, s3, _⟩ := o3.src (by intro f hf; simp at hf)
    clear k3 o3 s3 HKE
    go_wp2_with fail
    go_ret
    exact ⟨by first | rfl | simp, B3.out⟩
  have h64' : fs.length ≤ 64 := by rw [HL.out]; omega
  have hn64 : n ≤ 64 := by omega
  have HAG := hide (keep_again h64')
  have HBO := hide (filter_both (fun f => hopB fs f.1) fs)
  rw [somE_true h64'] at O2 ⊢
  rw [somE_false h64'] at HKE HAG
  have HOA := hide (okB_filter (fun f => hopB fs f.1) H.out.byte)
  have HOB := hide (okB_filter (fun f => !hopB fs f.1) H.out.byte)
  have HFB := hide (few_filter (fun f => !hopB fs f.1) HFEW.out)
  have HST := hide (fun k f hk => step_both (fun f => hopB fs f.1) fs k f hk)
  have HNA : Hid (∀ (i : Nat) (g : Fd), (fs.filter fun f => hopB fs f.1)[i]? = some g → hopB fs g.1 = true) := fun i g hg => filter_other _ fs hg
  have HNB : Hid (∀ (i : Nat) (g : Fd), (fs.filter fun f => !hopB fs f.1)[i]? = some g → hopB fs g.1 = false) := fun i g hg => by simpa using filter_other _ fs hg
  obtain ⟨fa, hfa⟩ : ∃ x, x = fs.filter (fun f => hopB fs f.1) := ⟨_, rfl⟩
  obtain ⟨fb, hfb⟩ : ∃ x, x = fs.filter (fun f => !hopB fs f.1) := ⟨_, rfl⟩
  rw [← hfa] at O2 HBO HOA HST HNA
  rw [← hfb] at HKE HAG HBO HOB HFB HST HNB
  simp only at HAG HBO
  have HFAT : Hid (∀ k, n ≤ k → ((fs.take k).filter fun f => hopB fs f.1) = fa) := fun k hk => by rw [List.take_of_length_le (by rw [HL.out]; exact hk), hfa]
  have ez : Hid ((((fs.take 0).filter fun f => hopB fs f.1).length = 0) ∧ (((fs.take 0).filter fun f => !hopB fs f.1).length = 0)) := ⟨rfl, rfl⟩
  obtain ⟨NA, hNA⟩ : ∃ g : Nat → Nat, g = fun k => ((fs.take k).filter fun f => hopB fs f.1).length := ⟨_, rfl⟩
  obtain ⟨NB, hNB⟩ : ∃ g : Nat → Nat, g = fun k => ((fs.take k).filter fun f => !hopB fs f.1).length := ⟨_, rfl⟩
  have HST2 : Hid (∀ k f, fs[k]? = some f → (hopB fs f.1 = true → fa[NA k]? = some f ∧ NA (k + 1) = NA k + 1 ∧ NB (k + 1) = NB k) ∧ (hopB fs f.1 = false → fb[NB k]? = some f ∧ NA (k + 1) = NA k ∧ NB (k + 1) = NB k + 1)) := fun k f hk => by
    obtain ⟨u1, u2⟩ := HST.out k f hk
    rw [hNA, hNB]
    exact ⟨fun hp => ⟨(u1 hp).1, (u1 hp).2.2.1, (u1 hp).2.2.2⟩, fun hp => ⟨(u2 hp).1, (u2 hp).2.2.1, (u2 hp).2.2.2⟩⟩
  have HZ : Hid (NA 0 = 0 ∧ NB 0 = 0) := by rw [hNA, hNB]; exact ⟨rfl, rfl⟩
  have HB64 : Hid (∀ k, NA k ≤ 64 ∧ NB k ≤ 64) := fun k => by
    rw [hNA, hNB]
    have t1 := List.length_filter_le (fun f : Fd => hopB fs f.1) (fs.take k)
    have t2 := List.length_filter_le (fun f : Fd => !hopB fs f.1) (fs.take k)
    have t3 := List.length_take_le k fs
    have t4 : (fs.take k).length ≤ fs.length := by rw [List.length_take]; omega
    show ((fs.take k).filter fun f => hopB fs f.1).length ≤ 64 ∧ ((fs.take k).filter fun f => !hopB fs f.1).length ≤ 64
    exact ⟨by omega, by omega⟩
  clear hNA hNB HST ez HFAT h64' hfa hfb
  obtain ⟨x1, c1, rfl, s1, _⟩ := O2.out.src HOA.out
  have S1 := hide s1
  have hc1 := s1.hcap
  have hm1 := s1.hmax
  unfold maxLen at hm1
  clear s1 O2
  go_wp2_with fail
  refine (HKE.out _ (HV.out.below B2.out) (H.out.below B2.out)).mono ?_
  rintro e w3 ⟨v3, rfl, o3, k3⟩
  have B3 := hide (B2.out.trans (k3.mono B2.out.size))
  obtain ⟨x3, c3, rfl, s3, _⟩ := o3.src HOB.out
  have S3 := hide s3
  have S13 := hide (S1.out.below k3)
  have hc3 := s3.hcap
  have hm3 := s3.hmax
  unfold maxLen at hm3
  clear k3 o3 s3 HKE S1
  obtain ⟨la, hla⟩ : ∃ l, l = fa.length := ⟨_, rfl⟩
  obtain ⟨lb, hlb⟩ : ∃ l, l = fb.length := ⟨_, rfl⟩
  have HLA := hide hla
  have HLB := hide hlb
  have hab : la + lb = n := by rw [hla, hlb, HBO.out, HL.out]
  rw [← hla] at S13 hc1 ⊢
  rw [← hlb] at S3 hc3 ⊢
  clear hla hlb
  have p1 : ((la : Int) + (lb : Int) != (n : Int)) = false := by simp; omega
  have p2 : ((la : Int) + (lb : Int) == (n : Int)) = true := by simp; omega
  go_wp2_with fail
  clear p1 p2
  go_loopw [7, 8, 9] (fun vi vk vn wr => ∃ k : Nat, k ≤ n ∧ vn = .int .i64 k ∧ vi = .int .i64 (NA k : Nat) ∧ vk = .int .i64 (NB k : Nat) ∧ Hid (Below w.heap.size w wr ∧ SrcF wr x1 la c1 fa ∧ SrcF wr x3 lb c3 fb)) (fun _ _ i _ => n - (intOf i).toNat)
  case atStart => exact ⟨0, by omega, rfl, by rw [HZ.out.1]; rfl, by rw [HZ.out.2]; rfl, B3.out, S13.out, S3.out⟩
  case round =>
    obtain ⟨k, hk, rfl, rfl, rfl, HI⟩ := hrel
    obtain ⟨b4, s4, t4⟩ := HI.out
    by_cases hkn : k < n
    · have hdk : decide ((k : Int) < (n : Int)) = true := decide_eq_true (by omega)
      have hkl : k < fs.length := by rw [HL.out]; exact hkn
      obtain ⟨f, hf⟩ : ∃ f, fs[k]? = some f := ⟨_, List.getElem?_eq_getElem hkl⟩
      have hgd : fs.getD k ([], []) = f := by rw [List.getD, hf]; rfl
      have hbf := H.out.byte f (List.mem_of_getElem? hf)
      obtain ⟨u1, u2⟩ := HST2.out k f hf
      obtain ⟨b, o, rfl, c0, c1'⟩ := (H.out.below b4).at_ hkn
      rw [Nat.mul_comm 2 k, hgd] at c0 c1'
      have hia := HB64.out k
      obtain ⟨i, hi⟩ : ∃ i, i = NA k := ⟨_, rfl⟩
      obtain ⟨j, hj⟩ : ∃ j, j = NB k := ⟨_, rfl⟩
      rw [← hi] at u1 u2 hia ⊢
      rw [← hj] at u1 u2 hia ⊢
      have B4 := hide b4
      have S4 := hide s4
      have T4 := hide t4
      obtain ⟨F1, hF1⟩ : ∃ x, x = strN f.1 := ⟨_, rfl⟩
      obtain ⟨F2, hF2⟩ : ∃ x, x = strN f.2 := ⟨_, rfl⟩
      rw [← hF1] at c0
      rw [← hF2] at c1'
      clear hkl hf hgd b4 HI hi hj
      cases hp : hopB fs f.1 with
      | true =>
        obtain ⟨y1, y2, y3⟩ := u1 hp
        have hil : i < la := by rw [HLA.out]; exact (List.getElem?_eq_some_iff.1 y1).1
        obtain ⟨ba, oa, rfl, d0, d1⟩ := s4.at_ hil
        rw [Nat.mul_comm 2 i, show fa.getD i ([], []) = f by rw [List.getD, y1]; rfl] at d0 d1
        rw [← hF1] at d0
        rw [← hF2] at d1
        have q1 : decide ((i : Int) < (la : Int)) = true := decide_eq_true (by omega)
        have q2 : decide (i < la) = true := decide_eq_true hil
        have Y := hide (And.intro y2 y3)
        by_cases hjl : j < lb
        · have hjl' : j < fb.length := by rw [← HLB.out]; exact hjl
          obtain ⟨g, hg⟩ : ∃ g, fb[j]? = some g := ⟨_, List.getElem?_eq_getElem hjl'⟩
          have hng := HNB.out j g hg
          obtain ⟨bb, ob, rfl, g0, g1⟩ := t4.at_ hjl
          rw [Nat.mul_comm 2 j, show fb.getD j ([], []) = g by rw [List.getD, hg]; rfl] at g0 g1
          have q3 : decide ((lb : Int) ≤ (j : Int)) = false := decide_eq_false (by omega)
          have q4 : decide (lb ≤ j) = false := decide_eq_false (by omega)
          have q5 := toList_two g.1 f.1 (HOB.out g (List.mem_of_getElem? hg)).1 hbf.1
          rw [decide_eq_false (show ¬ g.1 = f.1 from fun e => by rw [e, hp] at hng; cases hng), ← hF1] at q5
          obtain ⟨P1, hP1⟩ : ∃ x, x = strN g.1 := ⟨_, rfl⟩
          obtain ⟨P2, hP2⟩ : ∃ x, x = strN g.2 := ⟨_, rfl⟩
          rw [← hP1] at g0 q5
          rw [← hP2] at g1
          clear u1 u2 y1 y2 y3 hjl' hg hng hp hbf hP1 hP2 hF1 hF2 s4 t4
          go_wp2_with fail
          go_quiet (fail)
          go_wp2_with fail
          go_roundw
          case rel => exact ⟨k + 1, by omega, by go_num, by rw [Y.out.1]; go_num, by rw [Y.out.2], below_drewN B4.out _, S4.out.below (below_drewN (Below.refl _ _) _), T4.out.below (below_drewN (Below.refl _ _) _)⟩
          case measure => simp [intOf]; omega
        · have q3 : decide ((lb : Int) ≤ (j : Int)) = true := decide_eq_true (by omega)
          have q4 : decide (lb ≤ j) = true := decide_eq_true (by omega)
          clear u1 u2 y1 y2 y3 hp hbf hF1 hF2 s4 t4
          go_wp2_with fail
          go_quiet (fail)
          go_wp2_with fail
          go_roundw
          case rel => exact ⟨k + 1, by omega, by go_num, by rw [Y.out.1]; go_num, by rw [Y.out.2], below_drewN B4.out _, S4.out.below (below_drewN (Below.refl _ _) _), T4.out.below (below_drewN (Below.refl _ _) _)⟩
          case measure => simp [intOf]; omega
      | false =>
        obtain ⟨y1, y2, y3⟩ := u2 hp
        have hjl : j < lb := by rw [HLB.out]; exact (List.getElem?_eq_some_iff.1 y1).1
        obtain ⟨bb, ob, rfl, d0, d1⟩ := t4.at_ hjl
        rw [Nat.mul_comm 2 j, show fb.getD j ([], []) = f by rw [List.getD, y1]; rfl] at d0 d1
        rw [← hF1] at d0
        rw [← hF2] at d1
        have q3 : decide ((j : Int) < (lb : Int)) = true := decide_eq_true (by omega)
        have q4 : decide (j < lb) = true := decide_eq_true hjl
        have Y := hide (And.intro y2 y3)
        by_cases hil : i < la
        · have hil' : i < fa.length := by rw [← HLA.out]; exact hil
          obtain ⟨g, hg⟩ : ∃ g, fa[i]? = some g := ⟨_, List.getElem?_eq_getElem hil'⟩
          have hng := HNA.out i g hg
          obtain ⟨ba, oa, rfl, g0, g1⟩ := s4.at_ hil
          rw [Nat.mul_comm 2 i, show fa.getD i ([], []) = g by rw [List.getD, hg]; rfl] at g0 g1
          have q1 : decide ((i : Int) < (la : Int)) = true := decide_eq_true (by omega)
          have q2 : decide (i < la) = true := decide_eq_true hil
          have q5 := toList_two g.1 f.1 (HOA.out g (List.mem_of_getElem? hg)).1 hbf.1
          rw [decide_eq_false (show ¬ g.1 = f.1 from fun e => by rw [e, hp] at hng; cases hng), ← hF1] at q5
          obtain ⟨P1, hP1⟩ : ∃ x, x = strN g.1 := ⟨_, rfl⟩
          obtain ⟨P2, hP2⟩ : ∃ x, x = strN g.2 := ⟨_, rfl⟩
          rw [← hP1] at g0 q5
          rw [← hP2] at g1
          clear u1 u2 y1 y2 y3 hil' hg hng hp hbf hP1 hP2 hF1 hF2 s4 t4
          go_wp2_with fail
          go_quiet (fail)
          go_wp2_with fail
          go_quiet (fail)
          go_wp2_with fail
          go_roundw
          case rel => exact ⟨k + 1, by omega, by go_num, by rw [Y.out.1], by rw [Y.out.2]; go_num, below_drewN B4.out _, S4.out.below (below_drewN (Below.refl _ _) _), T4.out.below (below_drewN (Below.refl _ _) _)⟩
          case measure => simp [intOf]; omega
        · have q1 : decide ((i : Int) < (la : Int)) = false := decide_eq_false (by omega)
          have q2 : decide (i < la) = false := decide_eq_false (by omega)
          clear u1 u2 y1 y2 y3 hp hbf hF1 hF2 s4 t4
          go_wp2_with fail
          go_quiet (fail)
          go_wp2_with fail
          go_quiet (fail)
          go_wp2_with fail
          go_roundw
          case rel => exact ⟨k + 1, by omega, by go_num, by rw [Y.out.1], by rw [Y.out.2]; go_num, below_drewN B4.out _, S4.out.below (below_drewN (Below.refl _ _) _), T4.out.below (below_drewN (Below.refl _ _) _)⟩
          case measure => simp [intOf]; omega
    · have hdk : decide ((k : Int) < (n : Int)) = false := decide_eq_false (by omega)
      have HKB := hide (keep_at x3 lb c3 fb wr (HV.out.below b4) t4 HFB.out)
      rw [HAG.out] at HKB
      have B4 := hide b4
      have T4 := hide t4
      clear b4 s4 t4 HI
      go_wp2_with fail
      refine HKB.out.mono ?_
      rintro e w5 ⟨v5, rfl, o5, k5⟩
      have B5 := hide (B4.out.trans (k5.mono B4.out.size))
      obtain ⟨x5, c5, rfl, s5, _⟩ := o5.src HOB.out
      rw [← HLB.out] at s5 ⊢
      have HSF := hide (same_fields w5 x3 x5 lb c3 lb c5 fb (T4.out.below k5) s5)
      clear k5 o5 s5 HKB
      go_wp2_with fail
      refine HSF.out.mono ?_
      rintro e w6 ⟨rfl, k6⟩
      have B6 := hide (B5.out.trans (k6.mono B5.out.size))
      clear k6 HSF
      go_wp2_with fail
      go_ret
      exact ⟨by first | rfl | simp, B6.out⟩
end Go.Proofs.YtffjhhacegnhmaaDoor
