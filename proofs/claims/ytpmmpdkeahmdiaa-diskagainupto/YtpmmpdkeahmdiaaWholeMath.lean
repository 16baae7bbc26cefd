/- Each version was written so, as a whole; a crashed disk crashes into itself. -/
import Derived.Test.YtpmmpdkeahmdiaaCrashKeep
import Derived.Test.YtpmmpdkeahmdiaaStands
namespace Go.Proofs.Ytpmmpdkeahmdiaa
open Go.RowKit
set_option maxRecDepth 100000

/-- v was written to (a, n) by an operation of L. -/
def WrotV (L : List OpC) (a n : Int) (v : List Nat) : Prop := ∃ o ∈ L, o.kind = 0 ∧ o.area = a ∧ o.n = n ∧ v = pad o.xs ∧ o.xs.length ≤ 64
def Wrote (L : List OpC) (S : List Sec) : Prop := ∀ s ∈ S, ∀ v, (s.last = some v ∨ v ∈ s.fresh) → WrotV L s.area s.n v
theorem wr_wrote {L : List OpC} {a n : Int} {v : List Nat} (hv : WrotV L a n v) : ∀ {S : List Sec}, Wrote L S → Wrote L (wr a n v S)
  | [], _ => by
    intro s hs u hu
    simp only [wr, List.mem_singleton] at hs
    subst hs
    rcases hu with hu | hu
    · cases hu
    · rw [List.mem_singleton.1 hu]; exact hv
  | t :: r, h => by
    intro s hs u hu
    have ih := wr_wrote hv (S := r) fun s hs => h s (.tail _ hs)
    have ht := h t (.head _)
    unfold wr at hs
    split at hs
    · rename_i e
      rcases List.mem_cons.1 hs with rfl | hs
      · rcases hu with hu | hu
        · exact ht u (.inl hu)
        · rcases List.mem_append.1 hu with hu | hu
          · exact ht u (.inr hu)
          · rw [List.mem_singleton.1 hu]
            show WrotV L t.area t.n v
            rw [e.1, e.2]; exact hv
      · exact h s (.tail _ hs) u hu
    · split at hs
      · rcases List.mem_cons.1 hs with rfl | hs
        · rcases hu with hu | hu
          · cases hu
          · rw [List.mem_singleton.1 hu]; exact hv
        · exact h s hs u hu
      · rcases List.mem_cons.1 hs with rfl | hs
        · exact ht u hu
        · exact ih s hs u hu
theorem sy_wrote {L : List OpC} {a : Int} {S : List Sec} (h : Wrote L S) : Wrote L (sy a S) := by
  intro s hs u hu
  obtain ⟨t, ht, rfl⟩ := List.mem_map.1 hs
  split at hu
  · rename_i e
    rw [if_pos e]
    rcases hu with hu | hu
    · refine h t ht u ?_
      unfold syS Sec.cur at hu
      cases hl : t.fresh.getLast? with
      | none => simp [hl] at hu; exact .inl hu
      | some x => simp [hl] at hu; subst hu; exact .inr (List.mem_of_getLast? hl)
    · cases hu
  · rename_i e
    rw [if_neg e]
    exact h t ht u hu
theorem doD_wrote {L : List OpC} {d : DS} {o : OpC} (ho : o ∈ L) (h : Wrote L d.secs) : Wrote L (doD d o).secs := by
  unfold doD
  split
  · rename_i hk
    unfold wrD
    split
    · exact h
    · split
      · exact h
      · split
        · exact h
        · rename_i hf _
          exact wr_wrote ⟨o, ho, hk, rfl, rfl, rfl, by unfold formBad at hf; omega⟩ h
  · split
    · unfold syD
      split
      · exact sy_wrote h
      · rw [(stepD_secs _).1]; exact h
    · split
      · unfold frD
        split
        · intro s hs
          exact h s (List.mem_filter.1 hs).1
        · rw [(stepD_secs _).1]; exact h
      · split
        · unfold armD
          split <;> exact h
        · exact h
theorem behind_wrote (room : Int) (L : List OpC) : Wrote L (behind room L).secs := by
  unfold behind
  suffices h : ∀ (K : List OpC) (d : DS), (∀ o ∈ K, o ∈ L) → Wrote L d.secs → Wrote L (K.foldl doD d).secs from h L _ (fun _ h => h) (fun s hs => by cases hs)
  intro K
  induction K with
  | nil => intro d _ h; exact h
  | cons o r ih => intro d hK h; exact ih _ (fun o ho => hK o (.tail _ ho)) (doD_wrote (hK o (.head _)) h)
theorem cv_mem {p : Int} {last : Option (List Nat)} {fresh : List (List Nat)} {v : List Nat} (h : cvOf p last fresh = some v) : last = some v ∨ v ∈ fresh := by
  unfold cvOf at h
  split at h
  · exact .inl h
  · exact .inr (List.mem_of_getElem? h)
theorem crash_wrote {L : List OpC} {ps : List Int} {S : List Sec} (h : Wrote L S) : Wrote L (crashS ps S) := by
  intro t ht u hu
  obtain ⟨s, hs, e1, e2, ⟨_, rfl⟩ | ⟨p, v, _, hf, hc, hl⟩⟩ := crashS_mem ht
  · exact h _ hs u hu
  · rw [e1, e2]
    rcases hu with hu | hu
    · rw [hl] at hu
      cases hu
      exact h s hs _ (cv_mem hc)
    · rw [hf] at hu; cases hu
theorem cur_wrote {L : List OpC} {S : List Sec} {a n : Int} {v : List Nat} (h : Wrote L S) (hc : curOf S a n = some v) : WrotV L a n v := by
  unfold curOf at hc
  cases hf : findS a n S with
  | none => rw [hf] at hc; cases hc
  | some s =>
    rw [hf] at hc
    obtain ⟨e1, e2⟩ := findS_at hf
    have := h s (findS_mem hf) v ?_
    · rw [e1, e2] at this; exact this
    · have hc' : s.cur = some v := hc
      unfold Sec.cur at hc'
      cases hl : s.fresh.getLast? with
      | none => simp [hl] at hc'; exact .inl hc'
      | some x => simp [hl] at hc'; subst hc'; exact .inr (List.mem_of_getLast? hl)
/-- A crashed disk crashes into itself. -/
theorem crash_self : ∀ (ps : List Int) (S : List Sec), (∀ s ∈ S, s.fresh = []) → crashS ps S = S
  | _, [], _ => by simp [crashS]
  | ps, s :: r, h => by
    rw [crashS, if_pos (h s (.head _)), crash_self ps r fun t ht => h t (.tail _ ht)]
theorem crash_twice (d : DS) (ps qs : List Int) : crashD (crashD d ps) qs = crashD d ps := by
  unfold crashD
  rw [crash_self qs (crashS ps d.secs) fun t ht => crashS_fresh ht]
end Go.Proofs.Ytpmmpdkeahmdiaa
