/- What is found of a slot behind a crash: plain mathematics. -/
import Derived.Test.YtpmmpdkeahmdiaaSAgain
import Derived.Test.YtpmmpdkeahmdiaaCrashAll
namespace Go.Proofs.Ytpmmpdkeahmdiaa
set_option maxRecDepth 100000

/-- All was synced. -/
def AllSy (S : List Sec) : Prop := ∀ s ∈ S, s.fresh = []
def lastOf (S : List Sec) (a n : Int) : Option (List Nat) := (findS a n S).bind (·.last)
theorem cur_last {S : List Sec} (h : AllSy S) (a n : Int) : curOf S a n = lastOf S a n := by
  unfold curOf lastOf
  cases hf : findS a n S with
  | none => rfl
  | some s =>
    show s.cur = s.last
    unfold Sec.cur
    rw [h s (findS_mem hf)]
    rfl
theorem crashGet_self {S : List Sec} (h : AllSy S) : ∀ ps a n, crashGet ps S a n = lastOf S a n := by
  induction S with
  | nil => intro ps a n; rfl
  | cons s r ih =>
    intro ps a n
    have h1 := h s (.head _)
    rw [crashGet, lastOf, findS, h1]
    split
    · simp
    · simp only [if_true]
      exact ih (fun t ht => h t (.tail _ ht)) ps a n
theorem crashGet_wr {S : List Sec} (h : AllSy S) (hs : S.Pairwise Sec.before) (a n : Int) (v : List Nat) : ∀ (ps : List Int) (a' n' : Int), crashGet ps (wr a n v S) a' n' = if a' = a ∧ n' = n then cvOf (ps.headD 0) (lastOf S a n) [v] else lastOf S a' n' := by
  have one : ∀ (ps : List Int) (t : Sec) (r : List Sec) (a' n' : Int), t.fresh = [v] → crashGet ps (t :: r) a' n' = if t.area = a' ∧ t.n = n' then cvOf (ps.headD 0) t.last [v] else crashGet ps.tail r a' n' := fun ps t r a' n' hf => by
    have hne : ¬ t.fresh = [] := by rw [hf]; simp
    rw [crashGet, if_neg hne, if_neg hne, hf]
  have non : ∀ (ps : List Int) (t : Sec) (r : List Sec) (a' n' : Int), t.fresh = [] → crashGet ps (t :: r) a' n' = if t.area = a' ∧ t.n = n' then t.last else crashGet ps r a' n' := fun ps t r a' n' hf => by
    rw [crashGet, if_pos hf, if_pos hf]
  have lc : ∀ (t : Sec) (r : List Sec) (a' n' : Int), lastOf (t :: r) a' n' = if t.area = a' ∧ t.n = n' then t.last else lastOf r a' n' := fun t r a' n' => by
    unfold lastOf
    rw [findS]
    split <;> rfl
  induction S with
  | nil =>
    intro ps a' n'
    show crashGet ps [⟨a, n, none, [v]⟩] a' n' = _
    rw [one ps ⟨a, n, none, [v]⟩ [] a' n' rfl]
    by_cases e : a = a' ∧ n = n'
    · rw [if_pos (show a = a' ∧ n = n' from e), if_pos (show a' = a ∧ n' = n from ⟨e.1.symm, e.2.symm⟩)]; rfl
    · rw [if_neg (show ¬ (a = a' ∧ n = n') from e), if_neg (show ¬ (a' = a ∧ n' = n) from fun hh => e ⟨hh.1.symm, hh.2.symm⟩)]; rfl
  | cons s r ih =>
    intro ps a' n'
    obtain ⟨h1, h2⟩ := List.pairwise_cons.1 hs
    have hsf := h s (.head _)
    have hr : AllSy r := fun t ht => h t (.tail _ ht)
    rw [wr]
    by_cases he : s.area = a ∧ s.n = n
    · rw [if_pos he, one ps _ r a' n' (by simp [hsf]), lc s r a n, if_pos he, lc s r a' n', crashGet_self hr]
      by_cases e : a' = a ∧ n' = n
      · rw [if_pos e, if_pos (show s.area = a' ∧ s.n = n' from ⟨he.1.trans e.1.symm, he.2.trans e.2.symm⟩)]
      · have e' : ¬ (s.area = a' ∧ s.n = n') := fun hh => e ⟨hh.1.symm.trans he.1, hh.2.symm.trans he.2⟩
        rw [if_neg e, if_neg e', if_neg e']
    · rw [if_neg he]
      by_cases hb : a < s.area ∨ (a = s.area ∧ n < s.n)
      · have hno : lastOf (s :: r) a n = none := by
          rw [lastOf, findS_none_of fun t ht => ?_]
          · rfl
          · rcases List.mem_cons.1 ht with rfl | ht
            · exact he
            · have := h1 t ht
              unfold Sec.before at this
              omega
        rw [if_pos hb, one ps ⟨a, n, none, [v]⟩ (s :: r) a' n' rfl, hno, crashGet_self h]
        by_cases e : a' = a ∧ n' = n
        · rw [if_pos e, if_pos (show a = a' ∧ n = n' from ⟨e.1.symm, e.2.symm⟩)]
        · rw [if_neg e, if_neg (show ¬ (a = a' ∧ n = n') from fun hh => e ⟨hh.1.symm, hh.2.symm⟩)]
      · rw [if_neg hb, non ps s _ a' n' hsf, ih hr h2 ps a' n', lc s r a n, if_neg he, lc s r a' n']
        by_cases e : s.area = a' ∧ s.n = n'
        · have e' : ¬ (a' = a ∧ n' = n) := fun hh => he ⟨e.1.trans hh.1, e.2.trans hh.2⟩
          rw [if_pos e, if_neg e', if_pos e]
        · rw [if_neg e, if_neg e]
theorem cur_crash (ps : List Int) {S : List Sec} (hs : S.Pairwise Sec.before) (a n : Int) : curOf (crashS ps S) a n = crashGet ps S a n := by
  rw [cur_last (fun t ht => crashS_fresh ht), lastOf, find_crash hs]
/-- What was being written is found as it was, or as it is. -/
theorem crash_wr {S : List Sec} (h : AllSy S) (hs : S.Pairwise Sec.before) (a n : Int) (v : List Nat) (ps : List Int) : (∀ a' n', curOf (crashS ps (wr a n v S)) a' n' = curOf S a' n') ∨ (∀ a' n', curOf (crashS ps (wr a n v S)) a' n' = curOf (wr a n v S) a' n') := by
  have key : ∀ a' n', curOf (crashS ps (wr a n v S)) a' n' = if a' = a ∧ n' = n then cvOf (ps.headD 0) (lastOf S a n) [v] else lastOf S a' n' := fun a' n' => by
    rw [cur_crash ps (wr_sorted hs), crashGet_wr h hs]
  by_cases hp : pickN (ps.headD 0) 1 = 0
  · left
    intro a' n'
    rw [key, cur_last h]
    split
    · rename_i e
      rw [e.1, e.2, cvOf, if_pos (show pickN (ps.headD 0) [v].length = 0 from hp)]
    · rfl
  · right
    intro a' n'
    rw [key, cur_wr hs, cur_last h]
    split
    · have h1 : pickN (ps.headD 0) [v].length = 1 := by show pickN (ps.headD 0) 1 = 1; unfold pickN at hp ⊢; omega
      rw [cvOf, h1, if_neg (by omega)]
      rfl
    · rfl
theorem bytes_crash {S : List Sec} (h : ByteS S) (ps : List Int) : ByteS (crashS ps S) := by
  intro t ht
  obtain ⟨s, hs, _, _, ⟨_, rfl⟩ | ⟨p, v, _, hf, hc, hl⟩⟩ := crashS_mem ht
  · exact h _ hs
  · refine ⟨fun u hu => ?_, fun u hu => (by rw [hf] at hu; cases hu)⟩
    rw [hl] at hu
    cases hu
    unfold cvOf at hc
    split at hc
    · exact (h s hs).1 _ hc
    · exact (h s hs).2 _ (List.mem_of_getElem? hc)
theorem sy_all {S : List Sec} (h : AllSy S) (a n : Int) (v : List Nat) : AllSy (sy a (wr a n v S)) := by
  intro s hs
  obtain ⟨t, ht, rfl⟩ := List.mem_map.1 hs
  split
  · rfl
  · rename_i hne
    rcases wr_mem ht with h1 | ⟨h1, _⟩
    · exact h t h1
    · exact absurd h1 hne
theorem open_ext {S T : List Sec} {a : Int} (h : ∀ n, curOf S a n = curOf T a n) : openS S a = openS T a := by rw [openS_C, openS_C, h, h]
/-- A Save that is cut off: what is found is the old value or the new one. -/
theorem cut_found {S : List Sec} {n : Nat} {now xs : List Nat} (h : AllSy S) (hs : S.Pairwise Sec.before) (ho : openS S 1 = (n, now)) (hn : n + 1 < 18446744073709551616) (hl : xs.length ≤ 48) (ps : List Int) :
    openS (crashS ps (wr 1 (((n + 1) % 2 : Nat) : Int) (laySec (n + 1) xs) S)) 1 = (n, now) ∨ openS (crashS ps (wr 1 (((n + 1) % 2 : Nat) : Int) (laySec (n + 1) xs) S)) 1 = (n + 1, xs) := by
  rcases crash_wr h hs 1 (((n + 1) % 2 : Nat) : Int) (laySec (n + 1) xs) ps with hc | hc
  · left
    rw [open_ext (T := S) fun i => hc 1 i, ho]
  · right
    rw [open_ext (T := wr 1 (((n + 1) % 2 : Nat) : Int) (laySec (n + 1) xs) S) fun i => hc 1 i]
    have := open_saved (S := S) (a := 1) (xs := xs) hs (by rw [ho]) hn hl
    rw [← this]
    exact (open_ext fun i => (cur_sy 1 _ 1 i)).symm
theorem crash_same {S : List Sec} (h : AllSy S) (ps : List Int) : crashS ps S = S := by
  induction S generalizing ps with
  | nil => simp [crashS]
  | cons s r ih => rw [crashS, if_pos (h s (.head _)), ih (fun t ht => h t (.tail _ ht))]
theorem stepE_cases (d : DS) (hd : d.dead = false) : (stepE d = 0 ∧ (stepD d).dead = false) ∨ (stepE d = 30 ∧ (stepD d).dead = true) := by
  unfold stepE stepD
  rw [hd]
  cases ha : d.armed with
  | false => left; simp
  | true =>
    by_cases h0 : d.ahead = 0
    · right; simp [h0]
    · left; simp [h0]
/-- A Save on a disk that may die. -/
theorem save_cases {d : DS} {n : Nat} {xs : List Nat} (hd : d.dead = false) (hr : (d.secs.length : Int) < d.room) (hn : n + 1 < 18446744073709551616) (hl : xs.length ≤ 48) :
    (∃ d', saveD d 1 n xs = (d', 0) ∧ d'.dead = false ∧ d'.room = d.room ∧ d'.secs = sy 1 (wr 1 (((n + 1) % 2 : Nat) : Int) (laySec (n + 1) xs) d.secs)) ∨
    (∃ d', saveD d 1 n xs = (d', 30) ∧ d'.dead = true ∧ d'.room = d.room ∧ d'.secs = wr 1 (((n + 1) % 2 : Nat) : Int) (laySec (n + 1) xs) d.secs) := by
  have hf : ¬ formBad (((n + 1) % 2 : Nat) : Int) (laySec (n + 1) xs) := by unfold formBad; rw [lay_len hl]; omega
  have hfull : ¬ fullBad d 1 (((n + 1) % 2 : Nat) : Int) := by unfold fullBad; rintro ⟨_, h⟩; omega
  have e1 : wrE d 1 (((n + 1) % 2 : Nat) : Int) (laySec (n + 1) xs) = stepE d := by
    unfold wrE; rw [hd, if_neg (by simp), if_neg hf, if_neg hfull]
  have e2 : wrD d 1 (((n + 1) % 2 : Nat) : Int) (laySec (n + 1) xs) = { stepD d with secs := wr 1 (((n + 1) % 2 : Nat) : Int) (laySec (n + 1) xs) d.secs } := by
    unfold wrD; rw [hd, if_neg (by simp), if_neg hf, if_neg hfull, pad_64 (lay_len hl)]
  have hrm := (stepD_secs d).2
  unfold saveD
  rw [if_neg (by omega), e1, e2]
  rcases stepE_cases d hd with ⟨h1, h2⟩ | ⟨h1, h2⟩
  · rw [if_pos h1]
    obtain ⟨d1, hd1⟩ : ∃ d1 : DS, d1 = { stepD d with secs := wr 1 (((n + 1) % 2 : Nat) : Int) (laySec (n + 1) xs) d.secs } := ⟨_, rfl⟩
    rw [← hd1]
    have h3 : d1.dead = false := by rw [hd1]; exact h2
    have h4 : d1.secs = wr 1 (((n + 1) % 2 : Nat) : Int) (laySec (n + 1) xs) d.secs := by rw [hd1]
    have h5 : d1.room = d.room := by rw [hd1]; exact hrm
    have hrm1 := stepD_secs d1
    rcases stepE_cases d1 h3 with ⟨k1, k2⟩ | ⟨k1, k2⟩
    · left
      refine ⟨_, by rw [k1], ?_, ?_, ?_⟩
      · unfold syD; rw [if_pos k1]; exact k2
      · unfold syD; rw [if_pos k1]; show (stepD d1).room = _; rw [hrm1.2, h5]
      · unfold syD; rw [if_pos k1, ← h4]
    · right
      refine ⟨_, by rw [k1], ?_, ?_, ?_⟩
      · unfold syD; rw [if_neg (by omega)]; exact k2
      · unfold syD; rw [if_neg (by omega), hrm1.2, h5]
      · unfold syD; rw [if_neg (by omega), hrm1.1, h4]
  · right
    rw [if_neg (by omega)]
    exact ⟨{ stepD d with secs := wr 1 (((n + 1) % 2 : Nat) : Int) (laySec (n + 1) xs) d.secs }, by rw [h1], h2, hrm, rfl⟩
end Go.Proofs.Ytpmmpdkeahmdiaa
