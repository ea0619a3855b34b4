/-
  What is sent on is one head that is read as it must be, in numbers; conditions as each theorem has them.
-/
import Derived.Test.YtccoddmdlbdfjaaGreatDoorJoinedWK
import Derived.Test.YtccoddmdlbdfjaaGreatDoorEC
set_option linter.unusedSimpArgs false
set_option linter.unusedVariables false
namespace Go.Proofs.YtccoddmdlbdfjaaGreatDoor
open Go.RowKit

theorem sent_add {b : List Nat} (h : (addC Cn.new b).1.st = 2) : (addC Cn.new b).1 = ⟨2, (request b).1.1, (request b).1.2, 0⟩ ∧ (request b).2.2 = .ok ∧ (request b).1.1.1 = getM ∧ (sentQ (request b).1.1 (request b).1.2).length ≤ 8192 := by
  rw [add_read] at h ⊢
  have hans : ∀ c, (ansC c).st ≠ 2 := fun c => by unfold ansC; simp only; split <;> decide
  unfold readC at h ⊢
  split at h
  · simp [Cn.new] at h
  · split at h
    · exact absurd h (hans 400)
    · rename_i h6 hok
      rw [if_neg h6, if_neg hok]
      simp only at h ⊢
      unfold takeC at h ⊢
      split at h
      · rename_i hg
        rw [if_pos hg]
        split at h
        · exact absurd h (hans 400)
        · rename_i hb
          rw [if_neg hb]
          exact ⟨rfl, Classical.not_not.1 hok, hg, by omega⟩
      · split at h
        · simp at h
        · exact absurd h (hans 501)
theorem sends_no {b : List Nat} (h : (addC Cn.new b).1.st ≠ 2) : sendsC (addC Cn.new b).1 = [] := by
  have hans : ∀ c, sendsC (ansC c) = [] := fun c => by unfold sendsC ansC; simp only; split <;> simp <;> omega
  rw [add_read] at h ⊢
  unfold readC at h ⊢
  split
  · decide
  · split
    · exact hans 400
    · rename_i h6 hok
      rw [if_neg h6, if_neg hok] at h
      simp only at h ⊢
      unfold takeC at h ⊢
      split
      · rename_i hg
        rw [if_pos hg] at h
        split
        · exact hans 400
        · rename_i hb
          rw [if_neg hb] at h
          exact absurd rfl h
      · split
        · unfold sendsC; simp
        · exact hans 501
theorem vis_value {l : List Nat} (h : ∀ c ∈ l, 33 ≤ c ∧ c ≤ 126) (hl : l.length ≤ 4096) : value l = true := by
  have hb : ∀ c ∈ l, bk c = false := fun c hc => by have := h c hc; unfold bk; simp; omega
  unfold value
  rw [Bool.and_eq_true, Bool.and_eq_true]
  refine ⟨⟨decide_eq_true hl, decide_eq_true ((trim_ends l).2 ⟨fun c hc => hb c (List.mem_of_mem_head? hc), fun c hc => hb c (List.mem_of_getLast? hc)⟩)⟩, ?_⟩
  rw [List.all_eq_true]
  intro c hc
  have := h c hc
  unfold vb
  simp
  omega
theorem toT_vis {d : De} (h : DeOk d) : (∀ c ∈ toT d, 33 ≤ c ∧ c ≤ 126) ∧ (toT d).length ≤ 259 := by
  obtain ⟨x0, x1, x2, x3, n, p, rfl, ha, hc, h1, h2⟩ := h
  unfold toT adL
  simp only [List.getD_cons_zero, List.getD_cons_succ]
  split
  · have := hot_len (x0, x1, x2, x3) n ha
    exact ⟨fun c hc => by have := hot_mem _ _ c hc; omega, by omega⟩
  · refine ⟨fun c hcm => ?_, det_len _ _ _ ha⟩
    have hne : det (x0, x1, x2, x3) n (p : Int) ≠ [] := fun e => by rw [e] at hcm; simp at hcm
    have := (det_isD ha hne).1.mem c hcm
    omega
theorem sentF_ok {T : List Nat} {fs : List Fd} (hT : ∀ c ∈ T, 33 ≤ c ∧ c ≤ 126) (hl : T.length ≤ 259) (h : Fit fs) : (sentF T fs).all okF = true := by
  rw [List.all_eq_true]
  intro f hf
  rcases sentFd_mem h hf with rfl | rfl | hf
  · unfold okF
    rw [Bool.and_eq_true]
    exact ⟨(by decide : tok hostN = true), vis_value hT (by show T.length ≤ 4096; omega)⟩
  · exact (by decide : okF (connN, endV) = true)
  · exact List.all_eq_true.1 h.1 f hf
theorem sentF_len {T : List Nat} {fs : List Fd} (h : Fit fs) : (sentF T fs).length ≤ fs.length + 2 := by
  unfold sentF ownK
  rw [somE_fit h]
  have h1 := List.length_filter_le (fun f => !isN hostN f) (fs.filter fun f => hopB fs f.1 == false)
  have h2 := List.length_filter_le (fun f => hopB fs f.1 == false) fs
  simp only [List.length_cons]
  omega
/-- The line as if it were sent to a proxy. -/
def xL (p : List Nat) : List Nat := getM ++ 32 :: ((sch ++ 97 :: p) ++ 32 :: v11)
def gA : List Nat := [71, 69, 84, 32, 104, 116, 116, 112, 58, 47, 47, 97]
def deA : De := (([0, 0, 0, 0], [97]), 80)
theorem host_a : goTo [97] = (deA, .ok) := by decide +kernel
theorem targ_a {p : List Nat} (hp : path p = true) : targ getM (sch ++ 97 :: p) = ((getM, deA, p), .ok) := by
  obtain ⟨p1, p2, p3⟩ := path_parts hp
  obtain ⟨r, rfl⟩ : ∃ r, p = 47 :: r := by cases p with
    | nil => simp at p1
    | cons c r => simp at p1; exact ⟨r, by rw [p1]⟩
  have hc : cutT (sch ++ 97 :: 47 :: r) = ([97], 47 :: r) := by
    have e : (sch ++ 97 :: 47 :: r).drop 7 = 97 :: 47 :: r := by simp [sch]
    unfold cutT
    rw [e]
    simp [fst]
  have ho : okT (sch ++ 97 :: 47 :: r) = true := by
    unfold okT; rw [hc]; simp [sch, hp]
  unfold targ
  rw [if_neg getM_ne, if_neg (by simp [ho]), hc]
  simp only [host_a]
theorem xL_vis {p : List Nat} (hp : path p = true) : ∀ c ∈ sch ++ 97 :: p, 33 ≤ c ∧ c ≤ 126 := by
  intro c hc
  rcases List.mem_append.1 hc with h | h
  · exact (by decide : ∀ c ∈ sch, 33 ≤ c ∧ c ≤ 126) c h
  · rcases List.mem_cons.1 h with rfl | h
    · omega
    · exact (path_parts hp).2.2 c h
theorem xL_read {p : List Nat} (hp : path p = true) : rline (xL p) = ((getM, deA, p), .ok) := by
  unfold xL
  rw [rline_parts (by decide : tok getM = true) (xL_vis hp), targ_a hp]
theorem sent_drop (T p : List Nat) (fs : List Fd) : gA ++ (sent T p fs).drop 4 = fl (xL p :: (sentF T fs).map fline) := by
  unfold sent sentL xL
  rw [fl_cons, fl_cons]
  simp [getM, gA, sch]
/-- What is sent on. -/
theorem sent_reads {T p : List Nat} {fs : List Fd} (hp : path p = true) (hF : (sentF T fs).all okF = true) (hl : (sent T p fs).length ≤ 8192) : enE (sent T p fs) = ((sent T p fs).length, .ok) ∧
    (((request (gA ++ (sent T p fs).drop 4)).2.2 = .ok ∧ (request (gA ++ (sent T p fs).drop 4)).1.2 = sentF T fs) ∨ ((request (gA ++ (sent T p fs).drop 4)).2.2 ≠ .ok ∧ (8192 < (sent T p fs).length + 8 ∨ 64 < (sentF T fs).length))) := by
  have hLn : ∀ x ∈ (sentF T fs).map fline, Ln x := fun x hx => by
    obtain ⟨f, hf, rfl⟩ := List.mem_map.1 hx
    exact fline_Ln (List.all_eq_true.1 hF f hf)
  have hg : ∀ x ∈ sentL p :: (sentF T fs).map fline, Ln x := fun x hx => by
    rcases List.mem_cons.1 hx with rfl | hx
    · exact line_Ln (by decide : tok getM = true) (path_parts hp).2.2
    · exact hLn x hx
  have hg2 : ∀ x ∈ xL p :: (sentF T fs).map fline, Ln x := fun x hx => by
    rcases List.mem_cons.1 hx with rfl | hx
    · exact line_Ln (by decide : tok getM = true) (xL_vis hp)
    · exact hLn x hx
  have ht : tot (sentL p :: (sentF T fs).map fline) = (sent T p fs).length := rfl
  have ht2 : tot (xL p :: (sentF T fs).map fline) = (sent T p fs).length + 8 := by
    rw [← ht, tot_cons, tot_cons]
    unfold xL sentL
    simp [sch]
    omega
  constructor
  · have h1 : hd (sent T p fs) = some (sentL p :: (sentF T fs).map fline) := by
      show hd (fl _) = _
      rw [hd_fl hg, if_pos (by omega)]
    unfold enE
    rw [h1]
    simp only [ht]
  · rw [sent_drop]
    by_cases h8 : (sent T p fs).length + 8 ≤ 8192
    · have h1 : hd (fl (xL p :: (sentF T fs).map fline)) = some (xL p :: (sentF T fs).map fline) := by rw [hd_fl hg2, if_pos (by omega)]
      by_cases h64 : (sentF T fs).length ≤ 64
      · left
        have hf := flds_fline (sentF T fs) ((xL p).length + 2) [] hF (by simpa using h64)
        have hr : req (xL p :: (sentF T fs).map fline) = (((getM, deA, p), sentF T fs), .ok) := by
          simp only [req, xL_read hp, hf]
          simp
        obtain ⟨_, h3, _⟩ := request_hd h1
        rw [h3 (by rw [hr])]
        exact ⟨rfl, by rw [hr]⟩
      · right
        refine ⟨fun e => ?_, Or.inr (by omega)⟩
        rw [(request_hd h1).1] at e
        simp only [req, xL_read hp] at e
        cases hfl : flds ((xL p).length + 2) ((sentF T fs).map fline) [] with
        | mk r v =>
          rw [hfl] at e
          cases v with
          | ok =>
            have := flds_len _ _ _ _ hfl (by simp)
            simp at this
            omega
          | one a b => simp at e
          | wr a b => simp at e
    · right
      have h1 : hd (fl (xL p :: (sentF T fs).map fline)) = none := by rw [hd_fl hg2, if_neg (by omega)]
      exact ⟨by rw [request_none h1]; simp only; split <;> simp, Or.inl (by omega)⟩
/-- How what is sent on begins. -/
theorem sent_begins (T p : List Nat) (fs : List Fd) : ∃ r, sent T p fs = ([71, 69, 84, 32] ++ p ++ [32, 72, 84, 84, 80, 47, 49, 46, 49, 13, 10, 72, 111, 115, 116, 58, 32]) ++ r := by
  unfold sent sentL sentF
  rw [List.map_cons, fl_cons, fl_cons]
  exact ⟨T ++ 13 :: 10 :: fl (List.map fline ((connN, endV) :: ownK fs)), by simp [getM, v11, fline, hostN]⟩
end Go.Proofs.YtccoddmdlbdfjaaGreatDoor
