/- What is found behind a crash. -/
import Derived.Test.YtpmmpdkeahmdiaaAreas2
import Derived.Test.YtpmmpdkeahmdiaaItrSRise
import Derived.Test.YtpmmpdkeahmdiaaSync
import Derived.Test.YtpmmpdkeahmdiaaSecsOk
namespace Go.Proofs.Ytpmmpdkeahmdiaa
open Go.RowKit
set_option maxRecDepth 100000

/-- Which version is found: 0: what lasts. -/
def pickN (p : Int) (m : Nat) : Nat := (max p 0).toNat % (m + 1)
def cvOf (p : Int) (last : Option (List Nat)) (fresh : List (List Nat)) : Option (List Nat) := if pickN p fresh.length = 0 then last else fresh[pickN p fresh.length - 1]?
def crashSec (p : Int) (s : Sec) : List Sec := match cvOf p s.last s.fresh with | some v => [⟨s.area, s.n, some v, []⟩] | none => []
def crashS : List Int → List Sec → List Sec
  | _, [] => []
  | ps, s :: r => if s.fresh = [] then s :: crashS ps r else crashSec (ps.headD 0) s ++ crashS ps.tail r
def crashGet : List Int → List Sec → Int → Int → Option (List Nat)
  | _, [], _, _ => none
  | ps, s :: r, a, n => if s.area = a ∧ s.n = n then (if s.fresh = [] then s.last else cvOf (ps.headD 0) s.last s.fresh) else crashGet (if s.fresh = [] then ps else ps.tail) r a n
theorem crashSec_mem {p : Int} {s t : Sec} (h : t ∈ crashSec p s) : t.area = s.area ∧ t.n = s.n ∧ t.fresh = [] ∧ ∃ v, cvOf p s.last s.fresh = some v ∧ t.last = some v := by
  unfold crashSec at h
  cases hc : cvOf p s.last s.fresh with
  | none => rw [hc] at h; cases h
  | some v => rw [hc] at h; simp at h; subst h; exact ⟨rfl, rfl, rfl, v, rfl, rfl⟩
theorem crashS_mem : ∀ {ps : List Int} {S : List Sec} {t : Sec}, t ∈ crashS ps S → ∃ s ∈ S, t.area = s.area ∧ t.n = s.n ∧ ((s.fresh = [] ∧ t = s) ∨ ∃ p v, s.fresh ≠ [] ∧ t.fresh = [] ∧ cvOf p s.last s.fresh = some v ∧ t.last = some v)
  | ps, s :: r, t, h => by
    rw [crashS] at h
    split at h
    · rename_i hf
      rcases List.mem_cons.1 h with rfl | h
      · exact ⟨_, .head _, rfl, rfl, .inl ⟨hf, rfl⟩⟩
      · obtain ⟨s', h1, h2⟩ := crashS_mem h
        exact ⟨s', .tail _ h1, h2⟩
    · rename_i hf
      rcases List.mem_append.1 h with h | h
      · obtain ⟨h1, h2, h3, v, h4, h5⟩ := crashSec_mem h
        exact ⟨s, .head _, h1, h2, .inr ⟨_, v, hf, h3, h4, h5⟩⟩
      · obtain ⟨s', h1, h2⟩ := crashS_mem h
        exact ⟨s', .tail _ h1, h2⟩
theorem crashS_fresh {ps : List Int} {S : List Sec} {t : Sec} (h : t ∈ crashS ps S) : t.fresh = [] := by
  obtain ⟨s, _, _, _, ⟨h1, h2⟩ | ⟨_, _, _, h1, _⟩⟩ := crashS_mem h
  · rw [h2]; exact h1
  · exact h1
theorem crashS_sorted : ∀ {ps : List Int} {S : List Sec}, S.Pairwise Sec.before → (crashS ps S).Pairwise Sec.before
  | _, [], _ => by simp [crashS]
  | ps, s :: r, h => by
    obtain ⟨h1, h2⟩ := List.pairwise_cons.1 h
    have far : ∀ (t : Sec), t.area = s.area → t.n = s.n → ∀ ps', ∀ u ∈ crashS ps' r, t.before u := fun t e1 e2 ps' u hu => by
      obtain ⟨s', hs', e3, e4, _⟩ := crashS_mem hu
      have := h1 s' hs'
      unfold Sec.before at this ⊢
      rw [e1, e2, e3, e4]
      exact this
    rw [crashS]
    split
    · exact List.pairwise_cons.2 ⟨far s rfl rfl _, crashS_sorted h2⟩
    · rw [List.pairwise_append]
      refine ⟨?_, crashS_sorted h2, fun t ht u hu => ?_⟩
      · unfold crashSec; split <;> simp
      · obtain ⟨e1, e2, _⟩ := crashSec_mem ht
        exact far t e1 e2 _ u hu
theorem find_app_far {a n : Int} : ∀ {A B : List Sec}, (∀ s ∈ A, ¬ (s.area = a ∧ s.n = n)) → findS a n (A ++ B) = findS a n B
  | [], _, _ => rfl
  | s :: r, B, h => by rw [List.cons_append, findS, if_neg (h s (.head _))]; exact find_app_far fun t ht => h t (.tail _ ht)
theorem find_crash : ∀ {ps : List Int} {S : List Sec}, S.Pairwise Sec.before → ∀ a n, (findS a n (crashS ps S)).bind (·.last) = crashGet ps S a n
  | _, [], _, a, n => rfl
  | ps, s :: r, h, a, n => by
    obtain ⟨h1, h2⟩ := List.pairwise_cons.1 h
    rw [crashS, crashGet]
    by_cases e : s.area = a ∧ s.n = n
    · rw [if_pos e]
      by_cases hf : s.fresh = []
      · rw [if_pos hf, if_pos hf, findS, if_pos e]; rfl
      · rw [if_neg hf, if_neg hf]
        unfold crashSec
        cases hc : cvOf (ps.headD 0) s.last s.fresh with
        | some v => rw [List.singleton_append, findS, if_pos e]; rfl
        | none =>
          rw [List.nil_append, findS_none_of fun t ht hh => ?_]
          · rfl
          · obtain ⟨s', hs', e3, e4, _⟩ := crashS_mem ht
            have := h1 s' hs'
            unfold Sec.before at this
            omega
    · rw [if_neg e]
      by_cases hf : s.fresh = []
      · rw [if_pos hf, if_pos hf, findS, if_neg e]
        exact find_crash h2 a n
      · rw [if_neg hf, if_neg hf, find_app_far fun t ht hh => ?_]
        · exact find_crash h2 a n
        · obtain ⟨e1, e2, _⟩ := crashSec_mem ht
          exact e ⟨e1 ▸ hh.1, e2 ▸ hh.2⟩
/-- One step of the loops: fr: what was written since. -/
def cstep (fr : Int → Int → List (List Nat)) (st : (Int → Int → Option (List Nat)) × List Int) (k : Int × Int) : (Int → Int → Option (List Nat)) × List Int :=
  (fun a n => if a = k.1 ∧ n = k.2 then cvOf (st.2.headD 0) (st.1 a n) (fr a n) else st.1 a n, st.2.tail)
def freshK (S : List Sec) : List (Int × Int) := (S.filter fun s => s.fresh ≠ []).map fun s => (s.area, s.n)
theorem fold_get (fr : Int → Int → List (List Nat)) : ∀ (S : List Sec), S.Pairwise Sec.before → (∀ s ∈ S, fr s.area s.n = s.fresh) → ∀ (f : Int → Int → Option (List Nat)) (ps : List Int), (∀ s ∈ S, f s.area s.n = s.last) →
    ∀ a n, ((freshK S).foldl (cstep fr) (f, ps)).1 a n = if (findS a n S).isSome then crashGet ps S a n else f a n
  | [], _, _, f, ps, _, a, n => rfl
  | s :: r, h, hfr, f, ps, hf, a, n => by
    obtain ⟨h1, h2⟩ := List.pairwise_cons.1 h
    have key : ∀ s' ∈ r, ¬ (s'.area = s.area ∧ s'.n = s.n) := fun s' hs' hh => by
      have := h1 s' hs'
      unfold Sec.before at this
      omega
    by_cases hs : s.fresh = []
    · have e1 : freshK (s :: r) = freshK r := by simp [freshK, hs]
      rw [e1, fold_get fr r h2 (fun t ht => hfr t (.tail _ ht)) f ps (fun t ht => hf t (.tail _ ht)) a n, crashGet, findS]
      by_cases e : s.area = a ∧ s.n = n
      · rw [if_pos e, if_pos e, if_pos hs]
        have : findS a n r = none := findS_none_of fun t ht hh => key t ht ⟨hh.1.trans e.1.symm, hh.2.trans e.2.symm⟩
        rw [this]
        simp only [Option.isSome_none, Bool.false_eq_true, if_false, Option.isSome_some, if_true]
        rw [← e.1, ← e.2]
        exact hf s (.head _)
      · rw [if_neg e, if_neg e, if_pos hs]
    · have e1 : freshK (s :: r) = (s.area, s.n) :: freshK r := by simp [freshK, hs]
      rw [e1, List.foldl_cons]
      have hc : cstep fr (f, ps) (s.area, s.n) = ((cstep fr (f, ps) (s.area, s.n)).1, ps.tail) := rfl
      rw [hc, fold_get fr r h2 (fun t ht => hfr t (.tail _ ht)) _ ps.tail (fun t ht => ?_) a n, crashGet, findS]
      · by_cases e : s.area = a ∧ s.n = n
        · rw [if_pos e, if_pos e, if_neg hs]
          have : findS a n r = none := findS_none_of fun t ht hh => key t ht ⟨hh.1.trans e.1.symm, hh.2.trans e.2.symm⟩
          rw [this]
          simp only [Option.isSome_none, Bool.false_eq_true, if_false, Option.isSome_some, if_true]
          show (if a = s.area ∧ n = s.n then cvOf (ps.headD 0) (f a n) (fr a n) else f a n) = _
          rw [if_pos ⟨e.1.symm, e.2.symm⟩, ← e.1, ← e.2, hf s (.head _), hfr s (.head _)]
        · rw [if_neg e, if_neg e, if_neg hs]
          by_cases hi : (findS a n r).isSome = true
          · rw [if_pos hi, if_pos hi]
          · rw [if_neg hi, if_neg hi]
            show (if a = s.area ∧ n = s.n then cvOf (ps.headD 0) (f a n) (fr a n) else f a n) = _
            rw [if_neg fun hh => e ⟨hh.1.symm, hh.2.symm⟩]
      · show (if t.area = s.area ∧ t.n = s.n then _ else f t.area t.n) = _
        rw [if_neg (key t ht)]
        exact hf t (.tail _ ht)
theorem fold_picks (fr : Int → Int → List (List Nat)) (K : List (Int × Int)) : ∀ (f : Int → Int → Option (List Nat)) (ps : List Int), (K.foldl (cstep fr) (f, ps)).2 = ps.drop K.length := by
  induction K with
  | nil => intro f ps; rfl
  | cons k r ih =>
    intro f ps
    rw [List.foldl_cons]
    show (r.foldl (cstep fr) ((cstep fr (f, ps) k).1, ps.tail)).2 = _
    rw [ih, List.length_cons]
    cases ps <;> simp
/-- The order in which the loops go. -/
def loopK (sh : Sh) : List (Int × Int) := (SrtU.sorted (keys sh.F)).flatMap fun a => (SrtI.sorted (keys (inF sh a))).map fun n => (a, n)
def lexLt (x y : Int × Int) : Prop := x.1 < y.1 ∨ (x.1 = y.1 ∧ x.2 < y.2)
theorem strict_sortedU {xs : List Int} (h : xs.Nodup) : (SrtU.sorted xs).Pairwise (· < ·) := by
  have h1 := sorted_le xs
  have h2 : (SrtU.sorted xs).Nodup := (List.mergeSort_perm xs _).nodup_iff.2 h
  exact (List.pairwise_and_iff.2 ⟨h1, h2⟩).imp fun {a b} h => by omega
theorem loop_eq {w : World} {sh : Sh} {S : List Sec} (h : Held w sh) (hr : Rep sh S) (hI : ∀ a, (SrtI.sorted (keys (inF sh a))).Pairwise (· < ·)) (hIm : ∀ a n, n ∈ SrtI.sorted (keys (inF sh a)) ↔ n ∈ keys (inF sh a)) : loopK sh = freshK S := by
  have p1 : (loopK sh).Pairwise lexLt := by
    unfold loopK
    rw [List.pairwise_flatMap]
    refine ⟨fun a _ => ?_, (strict_sortedU h.hf.nodup).imp fun {a b} hab x hx y hy => ?_⟩
    · rw [List.pairwise_map]
      exact (hI a).imp fun {m n} hmn => .inr ⟨rfl, hmn⟩
    · obtain ⟨m, _, rfl⟩ := List.mem_map.1 hx
      obtain ⟨n, _, rfl⟩ := List.mem_map.1 hy
      exact .inl hab
  have p2 : (freshK S).Pairwise lexLt := by
    unfold freshK
    rw [List.pairwise_map]
    exact (hr.sorted.filter _).imp fun {s t} hst => hst
  refine List.Perm.eq_of_pairwise (le := lexLt) (fun a b _ _ h1 h2 => ?_) p1 p2 ((List.perm_ext_iff_of_nodup (p1.imp fun {a b} hab e => ?_) (p2.imp fun {a b} hab e => ?_)).2 fun k => ?_)
  · unfold lexLt at h1 h2; omega
  · subst e; unfold lexLt at hab; omega
  · subst e; unfold lexLt at hab; omega
  · obtain ⟨a, n⟩ := k
    have hfs : fget sh a n ≠ [] ↔ n ∈ keys (inF sh a) := by
      rw [fget_eq, fsGet_in]
      cases hm : mget n (inF sh a) with
      | none =>
        simp only [Option.map_none, Option.getD_none, ne_eq, not_true_eq_false, false_iff]
        exact mget_none.1 hm
      | some x =>
        have := (inF_vs h hm).2.2.2.2
        simp only [Option.map_some, Option.getD_some, ne_eq, this, not_false_eq_true, true_iff]
        exact List.mem_map.2 ⟨_, mem_keys_of_mget hm, rfl⟩
    constructor
    · intro hk
      obtain ⟨a', _, hk⟩ := List.mem_flatMap.1 hk
      obtain ⟨n', hn', e⟩ := List.mem_map.1 hk
      simp only [Prod.mk.injEq] at e
      obtain ⟨rfl, rfl⟩ := e
      have h1 := hfs.2 ((hIm _ _).1 hn')
      rw [hr.fresh] at h1
      cases hf : findS a' n' S with
      | none => rw [hf] at h1; simp at h1
      | some s =>
        rw [hf] at h1
        obtain ⟨e1, e2⟩ := findS_at hf
        refine List.mem_map.2 ⟨s, List.mem_filter.2 ⟨findS_mem hf, by simpa using h1⟩, by rw [e1, e2]⟩
    · intro hk
      obtain ⟨s, hs, e⟩ := List.mem_map.1 hk
      simp only [Prod.mk.injEq] at e
      obtain ⟨rfl, rfl⟩ := e
      obtain ⟨hs1, hs2⟩ := List.mem_filter.1 hs
      have h1 : fget sh s.area s.n ≠ [] := by
        rw [hr.fresh, findS_self hr.sorted hs1]
        simpa using hs2
      have h2 := hfs.1 h1
      refine List.mem_flatMap.2 ⟨s.area, ?_, List.mem_map.2 ⟨s.n, (hIm _ _).2 h2, rfl⟩⟩
      rw [mem_sorted, mem_keys]
      cases hm : mget s.area sh.F with
      | none => simp [inF, hm, keys] at h2
      | some x => rfl
end Go.Proofs.Ytpmmpdkeahmdiaa
