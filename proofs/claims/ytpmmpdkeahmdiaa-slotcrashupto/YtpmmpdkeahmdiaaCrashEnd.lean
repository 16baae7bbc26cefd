/- Crash: how many sectors are found, and the disk that is found. -/
import Derived.Test.YtpmmpdkeahmdiaaCrashBase
namespace Go.Proofs.Ytpmmpdkeahmdiaa
open Go.RowKit
set_option maxRecDepth 100000

def pairsOf (M : ML) : List (Int × Int) := M.flatMap fun p => p.2.2.map fun s => (p.1, s.1)
def sumML (M : ML) : Nat := (M.map fun p => p.2.2.length).sum
theorem pairs_len : ∀ M : ML, (pairsOf M).length = sumML M
  | [] => rfl
  | p :: r => by
    have := pairs_len r
    unfold pairsOf sumML at *
    rw [List.flatMap_cons, List.length_append, this]
    simp
theorem pairs_nodup {M : ML} (h : (keys M).Nodup) (hi : ∀ p ∈ M, (keys p.2.2).Nodup) : (pairsOf M).Nodup := by
  unfold pairsOf
  rw [List.Nodup, List.pairwise_flatMap]
  refine ⟨fun p hp => ?_, ?_⟩
  · have := hi p hp
    unfold keys at this
    rw [List.Nodup, List.pairwise_map] at this
    rw [List.pairwise_map]
    exact this.imp fun {s t} hst e => hst (by simpa using e)
  · have h' : M.Pairwise fun p q => p.1 ≠ q.1 := by
      unfold keys at h
      rw [List.Nodup, List.pairwise_map] at h
      exact h
    refine h'.imp fun {p q} hpq => ?_
    intro x hx y hy e
    obtain ⟨s, _, rfl⟩ := List.mem_map.1 hx
    obtain ⟨t, _, rfl⟩ := List.mem_map.1 hy
    simp only [Prod.mk.injEq] at e
    exact hpq e.1
theorem mem_pairs {M : ML} (h : (keys M).Nodup) (hi : ∀ p ∈ M, (keys p.2.2).Nodup) (a n : Int) : (a, n) ∈ pairsOf M ↔ (twoGet M a n).isSome = true := by
  constructor
  · intro hm
    obtain ⟨p, hp, hm⟩ := List.mem_flatMap.1 hm
    obtain ⟨s, hs, e⟩ := List.mem_map.1 hm
    simp only [Prod.mk.injEq] at e
    obtain ⟨rfl, rfl⟩ := e
    unfold twoGet
    rw [mget_of_mem h (show (p.1, p.2) ∈ M from hp), Option.bind_some, mget_of_mem (hi p hp) (show (s.1, s.2) ∈ p.2.2 from hs)]
    rfl
  · intro hm
    obtain ⟨v, hv⟩ := Option.isSome_iff_exists.1 hm
    obtain ⟨x, hx, hy⟩ := Option.bind_eq_some_iff.1 hv
    exact List.mem_flatMap.2 ⟨_, mem_keys_of_mget hx, List.mem_map.2 ⟨_, mem_keys_of_mget hy, rfl⟩⟩
theorem pairs_sub {M D : ML} (hD : ∀ p ∈ D, p ∈ M) : ∀ x ∈ pairsOf D, x ∈ pairsOf M := fun x hx => by
  obtain ⟨p, hp, hm⟩ := List.mem_flatMap.1 hx
  exact List.mem_flatMap.2 ⟨p, hD p hp, hm⟩
theorem len_sub : ∀ (l l' : List (Int × Int)), l.Nodup → (∀ x ∈ l, x ∈ l') → l.length ≤ l'.length
  | [], _, _, _ => Nat.zero_le _
  | x :: r, l', hn, hs => by
    obtain ⟨h1, h2⟩ := List.nodup_cons.1 hn
    have hx := hs x (.head _)
    have ih := len_sub r (l'.erase x) h2 fun y hy => (List.mem_erase_of_ne (fun e : y = x => h1 (by rw [← e]; exact hy))).2 (hs y (.tail _ hy))
    rw [List.length_erase_of_mem hx] at ih
    have := List.length_pos_of_mem hx
    simp only [List.length_cons]
    omega
theorem crashS_len : ∀ (ps : List Int) (S : List Sec), (crashS ps S).length ≤ S.length
  | _, [] => Nat.le_refl _
  | ps, s :: r => by
    rw [crashS]
    split
    · have := crashS_len ps r
      simp only [List.length_cons]; omega
    · have := crashS_len ps.tail r
      have h1 : (crashSec (ps.headD 0) s).length ≤ 1 := by unfold crashSec; split <;> simp
      rw [List.length_append, List.length_cons]; omega
theorem find_some_iff {a n : Int} {S : List Sec} : (findS a n S).isSome = true ↔ (a, n) ∈ S.map fun s => (s.area, s.n) := by
  constructor
  · intro h
    obtain ⟨s, hs⟩ := Option.isSome_iff_exists.1 h
    obtain ⟨e1, e2⟩ := findS_at hs
    exact List.mem_map.2 ⟨s, findS_mem hs, by rw [e1, e2]⟩
  · intro h
    obtain ⟨s, hs, e⟩ := List.mem_map.1 h
    simp only [Prod.mk.injEq] at e
    cases hf : findS a n S with
    | some _ => rfl
    | none =>
      exfalso
      induction S with
      | nil => cases hs
      | cons t r ih =>
        rw [findS] at hf
        split at hf
        · cases hf
        · rename_i hne
          rcases List.mem_cons.1 hs with rfl | hs
          · exact hne e
          · exact ih (List.mem_map.2 ⟨s, hs, by rw [e.1, e.2]⟩) hs hf
theorem sum_crash {M : ML} {S : List Sec} (h : (keys M).Nodup) (hi : ∀ p ∈ M, (keys p.2.2).Nodup) (hs : S.Pairwise Sec.before) (hl : ∀ s ∈ S, s.last ≠ none) (hg : ∀ a n, twoGet M a n = (findS a n S).bind (·.last)) : sumML M = S.length := by
  have key : ∀ a n, (a, n) ∈ pairsOf M ↔ (a, n) ∈ S.map fun s => (s.area, s.n) := fun a n => by
    rw [mem_pairs h hi, hg, ← find_some_iff]
    cases hf : findS a n S with
    | none => simp
    | some s =>
      have := hl s (findS_mem hf)
      cases hll : s.last with
      | none => exact absurd hll this
      | some v => simp [hll]
  have hn : (S.map fun s => (s.area, s.n)).Nodup := by
    rw [List.Nodup, List.pairwise_map]
    refine hs.imp fun {s t} hst e => ?_
    simp only [Prod.mk.injEq] at e
    unfold Sec.before at hst
    omega
  have l1 := len_sub _ _ (pairs_nodup h hi) fun x hx => (key x.1 x.2).1 hx
  have l2 := len_sub _ _ hn fun x hx => (key x.1 x.2).2 hx
  rw [pairs_len, List.length_map] at *
  omega
theorem sum_done {M D : ML} (h : (keys D).Nodup) (hi : ∀ p ∈ M, (keys p.2.2).Nodup) (hD : ∀ p ∈ D, p ∈ M) : sumML D ≤ sumML M := by
  rw [← pairs_len, ← pairs_len]
  exact len_sub _ _ (pairs_nodup h fun p hp => hi p (hD p hp)) (pairs_sub hD)
theorem sum_all {M D : ML} (hM : (keys M).Nodup) (h : (keys D).Nodup) (hi : ∀ p ∈ M, (keys p.2.2).Nodup) (hD : ∀ p ∈ D, p ∈ M) (hA : ∀ p ∈ M, p ∈ D) : sumML D = sumML M := by
  have h1 := sum_done h hi hD
  have h2 := sum_done (M := D) hM (fun p hp => hi p (hD p hp)) hA
  omega
theorem sum_snoc (D : ML) (k : Int) (b : Nat) (m : List (Int × List Nat)) : sumML (D ++ [(k, b, m)]) = sumML D + m.length := by simp [sumML]
/-- The disk that is found. -/
theorem found_disk {N : Nat} {w wr wr' : World} {q mb fbq : Nat} {room : Int} {M : ML} {f : Int → Int → Option (List Nat)} {S : List Sec} (h : CrashR w q mb fbq room wr M f) (hs : S.Pairwise Sec.before) (hl : ∀ s ∈ S, s.last ≠ none ∧ s.fresh = []) (hg : ∀ a n, f a n = (findS a n S).bind (·.last))
    (hq : wr'.heap[q]? = some (dC room (S.length : Int) 0 false false 0 mb fbq)) (hst : ∀ k, k < wr.heap.size → k ≠ q → wr'.heap[k]? = wr.heap[k]?) (r1 : 0 ≤ room) (r2 : room ≤ 9223372036854775807) (n1 : S.length ≤ N) (n2 : (S.length : Int) ≤ room) :
    ∃ fq, DiskAt N wr' q ⟨room, 0, 0, false, false, S⟩ fq ∧ ∀ b ∈ fq, w.heap.size ≤ b := by
  have hM : MapAt .u64 inV wr' mb M := h.two.1.same (hst mb h.two.1.lt h.ap.1.symm)
  have hge : ∀ b ∈ q :: Sh.blocks ⟨mb, fbq, M, []⟩, w.heap.size ≤ b := fun b hb => by
    simp only [Sh.blocks, Sh.lblocks, Sh.fblocks, List.flatMap_nil, List.append_nil, List.mem_cons] at hb
    rcases hb with rfl | rfl | rfl | hb
    · exact h.qge.1
    · exact h.newm
    · exact h.qge.2
    · obtain ⟨p, hp, rfl⟩ := List.mem_map.1 hb
      exact (h.new p hp).1
  refine ⟨q :: Sh.blocks ⟨mb, fbq, M, []⟩, ⟨⟨mb, fbq, M, []⟩, hq, ⟨hM, h.fb.same (hst fbq h.fb.lt h.ap.2.2.symm), fun p hp => ⟨(h.two.2.1 p hp).same (hst _ (h.two.2.1 p hp).lt (h.new p hp).2.1), (h.ne p hp).2, (h.ne p hp).1⟩, fun p hp => (by cases hp)⟩, ⟨hs, fun a n => ?_, fun a n => ?_, fun s hs' => .inl (hl s hs').1⟩, rfl, ?_, r1, r2, Int.le_refl _, ?_, n1, n2, fun s hs' => ?_, (show (-9223372036854775808 : Int) ≤ 0 by decide), (show (0 : Int) ≤ 9223372036854775807 by decide), fun e => (by cases e)⟩, hge⟩
  · show twoGet M a n = _
    rw [h.get, hg]
  · show [] = _
    cases hf : findS a n S with
    | none => rfl
    | some s => simp [(hl s (findS_mem hf)).2]
  · simp only [Sh.blocks, Sh.lblocks, Sh.fblocks, List.flatMap_nil, List.append_nil, List.nodup_cons, List.mem_cons, not_or]
    have hn := List.nodup_cons.1 h.two.2.2
    refine ⟨⟨h.ap.1, h.ap.2.2, fun hm => ?_⟩, ⟨h.ap.2.1.symm, hn.1⟩, fun hm => ?_, hn.2⟩
    · obtain ⟨p, hp, e⟩ := List.mem_map.1 hm
      exact (h.new p hp).2.1 e
    · obtain ⟨p, hp, e⟩ := List.mem_map.1 hm
      exact (h.new p hp).2.2 e
  · show (0 : Int) ≤ (N : Int)
    omega
  · rw [(hl s hs').2]; simp
end Go.Proofs.Ytpmmpdkeahmdiaa
