/- Words that begin with a text stand side by side. -/
import Derived.Test.YthjlihhknaelaaaDoorJ15
namespace Go.Proofs.YthjlihhknaelaaaDoor
open Go.RowKit Nums Fm Pk Pm
set_option maxRecDepth 100000

theorem pre_less : ∀ (h a : List UInt8), h <+: a → Op.bytesLess a h = false
  | [], a, _ => bl_nil a
  | b :: h, [], hp => by simp at hp
  | b :: h, c :: a, hp => by
    obtain ⟨e, hp2⟩ := List.cons_prefix_cons.1 hp
    subst e
    rw [Op.bytesLess.eq_3, pre_less h a hp2]
    simp
theorem pre_next : ∀ (h a b : List UInt8), Op.bytesLess a h = false → ¬ h <+: a → Op.bytesLess a b = true → ¬ h <+: b
  | [], _, _, _, h2, _ => absurd (List.nil_prefix) h2
  | _ :: _, [], _, h1, _, _ => by rw [Op.bytesLess.eq_2] at h1; cases h1
  | _ :: _, _ :: _, [], _, _, h3 => by rw [bl_nil] at h3; cases h3
  | x :: h, y :: a, z :: b, h1, h2, h3 => by
    intro hp
    obtain ⟨e, hp2⟩ := List.cons_prefix_cons.1 hp
    subst e
    rw [Op.bytesLess.eq_3] at h1 h3
    simp only [Bool.or_eq_false_iff, Bool.and_eq_false_iff, decide_eq_false_iff_not, beq_eq_false_iff_ne] at h1
    simp only [Bool.or_eq_true, Bool.and_eq_true, decide_eq_true_eq, beq_iff_eq] at h3
    rcases h3 with h3 | ⟨rfl, h3⟩
    · exact h1.1 h3
    · exact pre_next h a b (h1.2.resolve_left (fun e => e rfl)) (fun e => h2 (List.cons_prefix_cons.2 ⟨rfl, e⟩)) h3 hp2
/-- Does a begin with h? -/
def hpB (a h : ByteArray) : Bool := decide (h.data.toList <+: a.data.toList)
theorem hp_iff {a h : ByteArray} : hpB a h = true ↔ h.data.toList <+: a.data.toList := decide_eq_true_iff
theorem hp_low {a h : ByteArray} (hl : lessB a h = true) : hpB a h = false := by
  cases e : hpB a h with
  | false => rfl
  | true => have := pre_less _ _ (hp_iff.1 e); unfold lessB at hl; rw [this] at hl; cases hl
theorem hp_next {a b h : ByteArray} (h1 : lessB a h = false) (h2 : hpB a h = false) (h3 : lessB a b = true) : hpB b h = false :=
  decide_eq_false (pre_next _ _ _ h1 (of_decide_eq_false h2) h3)
theorem filter_while (h : ByteArray) : ∀ m : List Pr, m.Pairwise (fun a b => lessB a.1 b.1 = true) → (∀ x ∈ m, lessB x.1 h = false) → m.filter (fun x => hpB x.1 h) = m.takeWhile (fun x => hpB x.1 h)
  | [], _, _ => rfl
  | x :: r, hp, hl => by
    rw [List.pairwise_cons] at hp
    cases e : hpB x.1 h with
    | true =>
      have ih := filter_while h r hp.2 (fun y hy => hl y (by simp [hy]))
      simp only [List.filter_cons, List.takeWhile_cons, e, if_true, ih]
    | false =>
      have hnil : r.filter (fun x => hpB x.1 h) = [] := by
        rw [List.filter_eq_nil_iff]
        intro y hy
        rw [hp_next (hl x (by simp)) e (hp.1 y hy)]
        simp
      simp [e, hnil]
theorem under_while {l : List Pr} (hp : l.Pairwise (fun a b => lessB a.1 b.1 = true)) {h : ByteArray} {r : Nat} (hr : FirstAt l.length (fun k => !lessB (l.getD k zP).1 h) r) : l.filter (fun x => hpB x.1 h) = (l.drop r).takeWhile (fun x => hpB x.1 h) := by
  have hg : ∀ k (hk : k < l.length), l.getD k zP = l[k] := fun k hk => by rw [List.getD_eq_getElem?_getD, List.getElem?_eq_getElem hk]; rfl
  conv => lhs; rw [← List.take_append_drop r l]
  rw [List.filter_append]
  have h1 : (l.take r).filter (fun x => hpB x.1 h) = [] := by
    rw [List.filter_eq_nil_iff]
    intro x hx
    obtain ⟨k, hk, rfl⟩ := List.getElem_of_mem hx
    rw [List.length_take] at hk
    have h2 := hr.lo k (by omega)
    rw [hg k (by omega)] at h2
    rw [List.getElem_take, hp_low (by simpa using h2)]
    simp
  rw [h1, List.nil_append]
  refine filter_while h _ (hp.sublist (List.drop_sublist r l)) (fun x hx => ?_)
  obtain ⟨k, hk, rfl⟩ := List.getElem_of_mem hx
  rw [List.length_drop] at hk
  have h2 := hr.hi (r + k) (by omega) (by omega)
  rw [hg (r + k) (by omega)] at h2
  rw [List.getElem_drop]
  simpa using h2
/-- What the slice of a text says. -/
theorem hp_take (a h : ByteArray) : hpB a h = (a.data.toList.take h.size == h.data.toList) := by
  have hl : h.data.toList.length = h.size := by rw [Array.length_toList]; rfl
  cases e : (a.data.toList.take h.size == h.data.toList) with
  | true =>
    rw [beq_iff_eq] at e
    exact decide_eq_true (by rw [← e]; exact List.take_prefix _ _)
  | false =>
    refine decide_eq_false fun hp => ?_
    rw [List.prefix_iff_eq_take, hl] at hp
    exact absurd e (by rw [← hp]; simp)
theorem hp_short {a h : ByteArray} (hs : ¬ h.size ≤ a.size) : hpB a h = false := by
  refine decide_eq_false fun hp => ?_
  have h1 := hp.length_le
  rw [Array.length_toList, Array.length_toList] at h1
  exact hs h1
theorem ext_take (a : ByteArray) (n : Nat) : (a.extract 0 n).data.toList = a.data.toList.take n := by
  rw [ByteArray.data_extract, Array.toList_extract]
  simp
set_option maxHeartbeats 1000000 in
theorem hasPrefix_any (a h : ByteArray) (w : World) : Calls Tryd.prog 53 #[.string a, .string h] w fun e w' => e = .returned (.bool (hpB a h)) ∧ w' = w := by
  by_cases hs : h.size ≤ a.size
  · have hsz : (h.size : Int) ≤ (a.size : Int) := by omega
    have HT : Hid (hpB a h = (a.data.toList.take h.size == h.data.toList)) := hp_take a h
    go_enter Tryd.func53, Tryd.ntmps53
    go_wp2
    go_ret
    exact ⟨by rw [HT.out, ← ext_take, ← ByteArray.toList_eq, ← ByteArray.toList_eq]; rfl, rfl⟩
  · have hsz : ¬ (h.size : Int) ≤ (a.size : Int) := by omega
    have HF : Hid (hpB a h = false) := hp_short hs
    go_enter Tryd.func53, Tryd.ntmps53
    go_wp2
    go_ret
    exact ⟨by rw [HF.out]; rfl, rfl⟩
end Go.Proofs.YthjlihhknaelaaaDoor
