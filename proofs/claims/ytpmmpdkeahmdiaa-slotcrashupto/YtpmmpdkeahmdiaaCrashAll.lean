/- Texts that were written apart, joined. -/
import Derived.Test.YtpmmpdkeahmdiaaAreas2
import Derived.Test.YtpmmpdkeahmdiaaItrSRise
import Derived.Test.YtpmmpdkeahmdiaaSync
import Derived.Test.YtpmmpdkeahmdiaaSecsOk
import Derived.Shelf.Lay
import Derived.Shelf.SlMaps.Clone
import Derived.Ground.SlmcProg
/- What is found behind a crash. -/
namespace Go.Proofs.Ytpmmpdkeahmdiaa
open Go.RowKit
set_option maxRecDepth 100000

/-- Which version is found: 0: what lasts. -/
def pickN (p : Int) (m : Nat) : Nat := (max p 0).toNat % (m + 1)
def cvOf (p : Int) (last : Option (List Nat)) (fresh : List (List Nat)) : Option (List Nat) := if pickN p fresh.length = 0 then last else fresh[pickN p fresh.length - 1]?
def crashSec (p : Int) (s : Sec) : List Sec := match cvOf p s.last s.fresh with | some v => [⟨s.area, s.n, some v, []⟩] | none => []
def crashS : List Int → List Sec → List Sec
  | _, [] => []
  | ps, s :: r => if s.fresh = [] then s :: crashS ps r else crashSec (ps.headD 0) s ++ crashS ps.tail r
def crashGet : List Int → List Sec → Int → Int → Option (List Nat)
  | _, [], _, _ => none
  | ps, s :: r, a, n => if s.area = a ∧ s.n = n then (if s.fresh = [] then s.last else cvOf (ps.headD 0) s.last s.fresh) else crashGet (if s.fresh = [] then ps else ps.tail) r a n
theorem crashSec_mem {p : Int} {s t : Sec} (h : t ∈ crashSec p s) : t.area = s.area ∧ t.n = s.n ∧ t.fresh = [] ∧ ∃ v, cvOf p s.last s.fresh = some v ∧ t.last = some v := by
  unfold crashSec at h
  cases hc : cvOf p s.last s.fresh with
  | none => rw [hc] at h; cases h
  | some v => rw [hc] at h; simp at h; subst h; exact ⟨rfl, rfl, rfl, v, rfl, rfl⟩
theorem crashS_mem : ∀ {ps : List Int} {S : List Sec} {t : Sec}, t ∈ crashS ps S → ∃ s ∈ S, t.area = s.area ∧ t.n = s.n ∧ ((s.fresh = [] ∧ t = s) ∨ ∃ p v, s.fresh ≠ [] ∧ t.fresh = [] ∧ cvOf p s.last s.fresh = some v ∧ t.last = some v)
  | ps, s :: r, t, h => by
    rw [crashS] at h
    split at h
    · rename_i hf
      rcases List.mem_cons.1 h with rfl | h
      · exact ⟨_, .head _, rfl, rfl, .inl ⟨hf, rfl⟩⟩
      · obtain ⟨s', h1, h2⟩ := crashS_mem h
        exact ⟨s', .tail _ h1, h2⟩
    · rename_i hf
      rcases List.mem_append.1 h with h | h
      · obtain ⟨h1, h2, h3, v, h4, h5⟩ := crashSec_mem h
        exact ⟨s, .head _, h1, h2, .inr ⟨_, v, hf, h3, h4, h5⟩⟩
      · obtain ⟨s', h1, h2⟩ := crashS_mem h
        exact ⟨s', .tail _ h1, h2⟩
theorem crashS_fresh {ps : List Int} {S : List Sec} {t : Sec} (h : t ∈ crashS ps S) : t.fresh = [] := by
  obtain ⟨s, _, _, _, ⟨h1, h2⟩ | ⟨_, _, _, h1, _⟩⟩ := crashS_mem h
  · rw [h2]; exact h1
  · exact h1
theorem crashS_sorted : ∀ {ps : List Int} {S : List Sec}, S.Pairwise Sec.before → (crashS ps S).Pairwise Sec.before
  | _, [], _ => by simp [crashS]
  | ps, s :: r, h => by
    obtain ⟨h1, h2⟩ := List.pairwise_cons.1 h
    have far : ∀ (t : Sec), t.area = s.area → t.n = s.n → ∀ ps', ∀ u ∈ crashS ps' r, t.before u := fun t e1 e2 ps' u hu => by
      obtain ⟨s', hs', e3, e4, _⟩ := crashS_mem hu
      have := h1 s' hs'
      unfold Sec.before at this ⊢
      rw [e1, e2, e3, e4]
      exact this
    rw [crashS]
    split
    · exact List.pairwise_cons.2 ⟨far s rfl rfl _, crashS_sorted h2⟩
    · rw [List.pairwise_append]
      refine ⟨?_, crashS_sorted h2, fun t ht u hu => ?_⟩
      · unfold crashSec; split <;> simp
      · obtain ⟨e1, e2, _⟩ := crashSec_mem ht
        exact far t e1 e2 _ u hu
theorem find_app_far {a n : Int} : ∀ {A B : List Sec}, (∀ s ∈ A, ¬ (s.area = a ∧ s.n = n)) → findS a n (A ++ B) = findS a n B
  | [], _, _ => rfl
  | s :: r, B, h => by rw [List.cons_append, findS, if_neg (h s (.head _))]; exact find_app_far fun t ht => h t (.tail _ ht)
theorem find_crash : ∀ {ps : List Int} {S : List Sec}, S.Pairwise Sec.before → ∀ a n, (findS a n (crashS ps S)).bind (·.last) = crashGet ps S a n
  | _, [], _, a, n => rfl
  | ps, s :: r, h, a, n => by
    obtain ⟨h1, h2⟩ := List.pairwise_cons.1 h
    rw [crashS, crashGet]
    by_cases e : s.area = a ∧ s.n = n
    · rw [if_pos e]
      by_cases hf : s.fresh = []
      · rw [if_pos hf, if_pos hf, findS, if_pos e]; rfl
      · rw [if_neg hf, if_neg hf]
        unfold crashSec
        cases hc : cvOf (ps.headD 0) s.last s.fresh with
        | some v => rw [List.singleton_append, findS, if_pos e]; rfl
        | none =>
          rw [List.nil_append, findS_none_of fun t ht hh => ?_]
          · rfl
          · obtain ⟨s', hs', e3, e4, _⟩ := crashS_mem ht
            have := h1 s' hs'
            unfold Sec.before at this
            omega
    · rw [if_neg e]
      by_cases hf : s.fresh = []
      · rw [if_pos hf, if_pos hf, findS, if_neg e]
        exact find_crash h2 a n
      · rw [if_neg hf, if_neg hf, find_app_far fun t ht hh => ?_]
        · exact find_crash h2 a n
        · obtain ⟨e1, e2, _⟩ := crashSec_mem ht
          exact e ⟨e1 ▸ hh.1, e2 ▸ hh.2⟩
/-- One step of the loops: fr: what was written since. -/
def cstep (fr : Int → Int → List (List Nat)) (st : (Int → Int → Option (List Nat)) × List Int) (k : Int × Int) : (Int → Int → Option (List Nat)) × List Int :=
  (fun a n => if a = k.1 ∧ n = k.2 then cvOf (st.2.headD 0) (st.1 a n) (fr a n) else st.1 a n, st.2.tail)
def freshK (S : List Sec) : List (Int × Int) := (S.filter fun s => s.fresh ≠ []).map fun s => (s.area, s.n)
theorem fold_get (fr : Int → Int → List (List Nat)) : ∀ (S : List Sec), S.Pairwise Sec.before → (∀ s ∈ S, fr s.area s.n = s.fresh) → ∀ (f : Int → Int → Option (List Nat)) (ps : List Int), (∀ s ∈ S, f s.area s.n = s.last) →
    ∀ a n, ((freshK S).foldl (cstep fr) (f, ps)).1 a n = if (findS a n S).isSome then crashGet ps S a n else f a n
  | [], _, _, f, ps, _, a, n => rfl
  | s :: r, h, hfr, f, ps, hf, a, n => by
    obtain ⟨h1, h2⟩ := List.pairwise_cons.1 h
    have key : ∀ s' ∈ r, ¬ (s'.area = s.area ∧ s'.n = s.n) := fun s' hs' hh => by
      have := h1 s' hs'
      unfold Sec.before at this
      omega
    by_cases hs : s.fresh = []
    · have e1 : freshK (s :: r) = freshK r := by simp [freshK, hs]
      rw [e1, fold_get fr r h2 (fun t ht => hfr t (.tail _ ht)) f ps (fun t ht => hf t (.tail _ ht)) a n, crashGet, findS]
      by_cases e : s.area = a ∧ s.n = n
      · rw [if_pos e, if_pos e, if_pos hs]
        have : findS a n r = none := findS_none_of fun t ht hh => key t ht ⟨hh.1.trans e.1.symm, hh.2.trans e.2.symm⟩
        rw [this]
        simp only [Option.isSome_none, Bool.false_eq_true, if_false, Option.isSome_some, if_true]
        rw [← e.1, ← e.2]
        exact hf s (.head _)
      · rw [if_neg e, if_neg e, if_pos hs]
    · have e1 : freshK (s :: r) = (s.area, s.n) :: freshK r := by simp [freshK, hs]
      rw [e1, List.foldl_cons]
      have hc : cstep fr (f, ps) (s.area, s.n) = ((cstep fr (f, ps) (s.area, s.n)).1, ps.tail) := rfl
      rw [hc, fold_get fr r h2 (fun t ht => hfr t (.tail _ ht)) _ ps.tail (fun t ht => ?_) a n, crashGet, findS]
      · by_cases e : s.area = a ∧ s.n = n
        · rw [if_pos e, if_pos e, if_neg hs]
          have : findS a n r = none := findS_none_of fun t ht hh => key t ht ⟨hh.1.trans e.1.symm, hh.2.trans e.2.symm⟩
          rw [this]
          simp only [Option.isSome_none, Bool.false_eq_true, if_false, Option.isSome_some, if_true]
          show (if a = s.area ∧ n = s.n then cvOf (ps.headD 0) (f a n) (fr a n) else f a n) = _
          rw [if_pos ⟨e.1.symm, e.2.symm⟩, ← e.1, ← e.2, hf s (.head _), hfr s (.head _)]
        · rw [if_neg e, if_neg e, if_neg hs]
          by_cases hi : (findS a n r).isSome = true
          · rw [if_pos hi, if_pos hi]
          · rw [if_neg hi, if_neg hi]
            show (if a = s.area ∧ n = s.n then cvOf (ps.headD 0) (f a n) (fr a n) else f a n) = _
            rw [if_neg fun hh => e ⟨hh.1.symm, hh.2.symm⟩]
      · show (if t.area = s.area ∧ t.n = s.n then _ else f t.area t.n) = _
        rw [if_neg (key t ht)]
        exact hf t (.tail _ ht)
theorem fold_picks (fr : Int → Int → List (List Nat)) (K : List (Int × Int)) : ∀ (f : Int → Int → Option (List Nat)) (ps : List Int), (K.foldl (cstep fr) (f, ps)).2 = ps.drop K.length := by
  induction K with
  | nil => intro f ps; rfl
  | cons k r ih =>
    intro f ps
    rw [List.foldl_cons]
    show (r.foldl (cstep fr) ((cstep fr (f, ps) k).1, ps.tail)).2 = _
    rw [ih, List.length_cons]
    cases ps <;> simp
/-- The order in which the loops go. -/
def loopK (sh : Sh) : List (Int × Int) := (SrtU.sorted (keys sh.F)).flatMap fun a => (SrtI.sorted (keys (inF sh a))).map fun n => (a, n)
def lexLt (x y : Int × Int) : Prop := x.1 < y.1 ∨ (x.1 = y.1 ∧ x.2 < y.2)
theorem strict_sortedU {xs : List Int} (h : xs.Nodup) : (SrtU.sorted xs).Pairwise (· < ·) := by
  have h1 := sorted_le xs
  have h2 : (SrtU.sorted xs).Nodup := (List.mergeSort_perm xs _).nodup_iff.2 h
  exact (List.pairwise_and_iff.2 ⟨h1, h2⟩).imp fun {a b} h => by omega
theorem loop_eq {w : World} {sh : Sh} {S : List Sec} (h : Held w sh) (hr : Rep sh S) (hI : ∀ a, (SrtI.sorted (keys (inF sh a))).Pairwise (· < ·)) (hIm : ∀ a n, n ∈ SrtI.sorted (keys (inF sh a)) ↔ n ∈ keys (inF sh a)) : loopK sh = freshK S := by
  have p1 : (loopK sh).Pairwise lexLt := by
    unfold loopK
    rw [List.pairwise_flatMap]
    refine ⟨fun a _ => ?_, (strict_sortedU h.hf.nodup).imp fun {a b} hab x hx y hy => ?_⟩
    · rw [List.pairwise_map]
      exact (hI a).imp fun {m n} hmn => .inr ⟨rfl, hmn⟩
    · obtain ⟨m, _, rfl⟩ := List.mem_map.1 hx
      obtain ⟨n, _, rfl⟩ := List.mem_map.1 hy
      exact .inl hab
  have p2 : (freshK S).Pairwise lexLt := by
    unfold freshK
    rw [List.pairwise_map]
    exact (hr.sorted.filter _).imp fun {s t} hst => hst
  refine List.Perm.eq_of_pairwise (le := lexLt) (fun a b _ _ h1 h2 => ?_) p1 p2 ((List.perm_ext_iff_of_nodup (p1.imp fun {a b} hab e => ?_) (p2.imp fun {a b} hab e => ?_)).2 fun k => ?_)
  · unfold lexLt at h1 h2; omega
  · subst e; unfold lexLt at hab; omega
  · subst e; unfold lexLt at hab; omega
  · obtain ⟨a, n⟩ := k
    have hfs : fget sh a n ≠ [] ↔ n ∈ keys (inF sh a) := by
      rw [fget_eq, fsGet_in]
      cases hm : mget n (inF sh a) with
      | none =>
        simp only [Option.map_none, Option.getD_none, ne_eq, not_true_eq_false, false_iff]
        exact mget_none.1 hm
      | some x =>
        have := (inF_vs h hm).2.2.2.2
        simp only [Option.map_some, Option.getD_some, ne_eq, this, not_false_eq_true, true_iff]
        exact List.mem_map.2 ⟨_, mem_keys_of_mget hm, rfl⟩
    constructor
    · intro hk
      obtain ⟨a', _, hk⟩ := List.mem_flatMap.1 hk
      obtain ⟨n', hn', e⟩ := List.mem_map.1 hk
      simp only [Prod.mk.injEq] at e
      obtain ⟨rfl, rfl⟩ := e
      have h1 := hfs.2 ((hIm _ _).1 hn')
      rw [hr.fresh] at h1
      cases hf : findS a' n' S with
      | none => rw [hf] at h1; simp at h1
      | some s =>
        rw [hf] at h1
        obtain ⟨e1, e2⟩ := findS_at hf
        refine List.mem_map.2 ⟨s, List.mem_filter.2 ⟨findS_mem hf, by simpa using h1⟩, by rw [e1, e2]⟩
    · intro hk
      obtain ⟨s, hs, e⟩ := List.mem_map.1 hk
      simp only [Prod.mk.injEq] at e
      obtain ⟨rfl, rfl⟩ := e
      obtain ⟨hs1, hs2⟩ := List.mem_filter.1 hs
      have h1 : fget sh s.area s.n ≠ [] := by
        rw [hr.fresh, findS_self hr.sorted hs1]
        simpa using hs2
      have h2 := hfs.1 h1
      refine List.mem_flatMap.2 ⟨s.area, ?_, List.mem_map.2 ⟨s.n, (hIm _ _).2 h2, rfl⟩⟩
      rw [mem_sorted, mem_keys]
      cases hm : mget s.area sh.F with
      | none => simp [inF, hm, keys] at h2
      | some x => rfl
end Go.Proofs.Ytpmmpdkeahmdiaa

/- disk.copyLasting. -/
namespace Go.Proofs.Ytpmmpdkeahmdiaa
open Go.RowKit Go.Shelf
set_option maxRecDepth 100000
shelf_lay_g SlLaysW.n5 Slmc 5 at Try 64 as cloneL
theorem Clone_any {f : List Nat → Value} {m : List (Int × List Nat)} (b : Nat) (w : World) (h : MapAt .i64 f w b m) :
    Calls Try.prog 64 #[.map (some b)] w fun e w' => e = .returned (.map (some w.heap.size)) ∧ MapAt .i64 f w' w.heap.size m ∧ w'.heap.size = w.heap.size + 1 ∧ Below w.heap.size w w' := by
  obtain ⟨es, clock, hb, hr⟩ := h
  have hc : Calls Try.prog 64 #[.map (some b)] w fun e w' => e = .returned (.map (some w.heap.size)) ∧ w' = w.alloc (.map es clock) := AnyW.maps_Clone cloneL b es clock w hb
  refine hc.mono ?_
  rintro e w' ⟨rfl, rfl⟩
  exact ⟨rfl, ⟨es, clock, (MapKept.heap_alloc w _).1, hr⟩, by simp, (Below.refl _ w).alloc (Nat.le_refl _) _⟩
/-- A copy under way: done: what has been copied. -/
structure CopyInv (w : World) (lb mb r : Nat) (L : List (Int × Nat × List (Int × List Nat))) (wr : World) (done : List (Int × Nat × List (Int × List Nat))) (M : List (Int × Nat × List (Int × List Nat))) : Prop where
  rng : Ranges .u64 inV wr (some lb) r L done
  two : Two verV wr mb M
  eq : M.map (fun p => (p.1, p.2.2)) = done.map (fun p => (p.1, p.2.2))
  new : ∀ p ∈ M, w.heap.size ≤ p.2.1 ∧ p.2.1 ≠ r
  below : Below w.heap.size w wr
theorem mput_new {α : Type} {k : Int} {v : α} : ∀ {m : List (Int × α)}, k ∉ keys m → mput k v m = m ++ [(k, v)]
  | [], _ => rfl
  | p :: t, h => by
    have h1 : p.1 ≠ k := fun e => h (e ▸ .head _)
    rw [mput, if_neg h1, mput_new fun hm => h (.tail _ hm)]
    rfl
theorem keys_eq {α β : Type} {M : List (Int × Nat × α)} {D : List (Int × Nat × β)} {g : α → β} (h : M.map (fun p => (p.1, g p.2.2)) = D.map (fun p => (p.1, p.2.2))) : keys M = keys D := by
  have := congrArg (List.map Prod.fst) h
  rw [List.map_map, List.map_map] at this
  exact this
theorem mget_map {α β : Type} (g : α → β) (a : Int) : ∀ (M : List (Int × α)), (mget a M).map g = mget a (M.map fun p => (p.1, g p.2))
  | [] => rfl
  | p :: r => by
    rw [mget, List.map_cons, mget]
    by_cases e : p.1 = a
    · rw [if_pos e, if_pos e]; rfl
    · rw [if_neg e, if_neg e]; exact mget_map g a r
theorem mget_same {α : Type} {A B : List (Int × α)} (hA : (keys A).Nodup) (hB : (keys B).Nodup) (h : ∀ p, p ∈ A ↔ p ∈ B) (a : Int) : mget a A = mget a B := by
  cases hm : mget a A with
  | some v => exact (mget_of_mem hB ((h _).1 (mem_keys_of_mget hm))).symm
  | none =>
    cases hm' : mget a B with
    | none => rfl
    | some v => rw [mget_of_mem hA ((h _).2 (mem_keys_of_mget hm'))] at hm; cases hm
theorem CopyInv.next {w : World} {lb mb r : Nat} {L done M : List (Int × Nat × List (Int × List Nat))} {wr w' w6 w7 : World} {k : Int} {x : Nat × List (Int × List Nat)} (h : CopyInv w lb mb r L wr done M) (hlb : lb < w.heap.size) (hmb : w.heap.size ≤ mb) (hrw : w.heap.size ≤ r) (hrm : r ≠ mb) (hk : k ∉ keys done)
    (hr2 : Ranges .u64 inV w' (some lb) r L (done ++ [(k, x)])) (ho : OneD r wr w') (hc : MapAt .i64 verV w6 w'.heap.size x.2) (hb6 : Below w'.heap.size w' w6) (hu : MapAt .u64 inV w7 mb (mput k (w'.heap.size, x.2) M)) (ho7 : One mb w6 w7) :
    ∃ done' M', CopyInv w lb mb r L w7 done' M' := by
  have hkM : k ∉ keys M := by rw [keys_eq (g := id) (by simpa using h.eq)]; exact hk
  have hmlt := h.two.1.lt
  have hrl : r < w'.heap.size := hr2.lt
  have hsz := ho.size
  have hbw := h.below.size
  have far : ∀ b, b < wr.heap.size → b ≠ r → b ≠ mb → w7.heap[b]? = wr.heap[b]? := fun b hb h1 h2 => (ho7.block b h2).trans ((hb6.block b (by omega)).trans (ho.block b h1))
  have hlt : ∀ p ∈ M, p.2.1 < wr.heap.size := fun p hp => (h.two.2.1 p hp).lt
  refine ⟨done ++ [(k, x)], M ++ [(k, w'.heap.size, x.2)], ?_, ⟨?_, ?_, ?_⟩, ?_, ?_, ?_⟩
  · refine hr2.same ((ho7.block r hrm).trans (hb6.block r hrl)) fun b hb => ?_
    cases hb
    exact (ho7.block lb (by omega)).trans (hb6.block lb (by omega))
  · rw [← mput_new hkM]; exact hu
  · intro p hp
    rcases List.mem_append.1 hp with hp | hp
    · exact (h.two.2.1 p hp).same (far _ (hlt p hp) (h.new p hp).2 (inner_ne h.two.2.2 hp))
    · rw [List.mem_singleton.1 hp]
      exact hc.same (ho7.block _ (by show w'.heap.size ≠ mb; omega))
  · rw [List.map_append]
    have hn := h.two.2.2
    rw [← List.cons_append, List.nodup_append]
    refine ⟨hn, by simp, fun a ha b hb e => ?_⟩
    simp only [List.map_cons, List.map_nil, List.mem_singleton] at hb
    subst hb
    rcases List.mem_cons.1 ha with ha | ha
    · omega
    · obtain ⟨p, hp, rfl⟩ := List.mem_map.1 ha
      have := hlt p hp
      omega
  · rw [List.map_append, List.map_append, h.eq]; rfl
  · intro p hp
    rcases List.mem_append.1 hp with hp | hp
    · exact h.new p hp
    · rw [List.mem_singleton.1 hp]
      exact ⟨by show w.heap.size ≤ w'.heap.size; omega, by show w'.heap.size ≠ r; omega⟩
  · have e1 : Below w.heap.size wr w' := ⟨ho.os, ho.tape, ho.output, Nat.le_of_eq ho.size.symm, fun b hb => ho.block b (by omega)⟩
    have e2 : Below w.heap.size w6 w7 := ⟨ho7.os, ho7.tape, ho7.output, Nat.le_of_eq ho7.size.symm, fun b hb => ho7.block b (by omega)⟩
    exact ((h.below.trans e1).trans (hb6.mono (by omega))).trans e2
set_option maxHeartbeats 1000000 in
theorem copyLasting_any (lb : Nat) (L : List (Int × Nat × List (Int × List Nat))) (w : World) (h : MapAt .u64 inV w lb L) (hi : ∀ p ∈ L, MapAt .i64 verV w p.2.1 p.2.2) :
    Calls Try.prog 36 #[.map (some lb)] w fun e w' => ∃ mb M, e = .returned (.map (some mb)) ∧ Two verV w' mb M ∧ (∀ a, (mget a M).map (·.2) = (mget a L).map (·.2)) ∧ w.heap.size ≤ mb ∧ (∀ p ∈ M, w.heap.size ≤ p.2.1) ∧ Below w.heap.size w w' := by
  have HH : Hid (MapAt .u64 inV w lb L) := h
  have HI : Hid (∀ p ∈ L, MapAt .i64 verV w p.2.1 p.2.2) := hi
  have hlb := h.lt
  have hmm := @run_makeMap Try.prog
  have HR : Hid (∃ ob, (Instr.range 75 (.map (some lb))).run Try.prog (w.alloc (.map #[] 0)) = .ok (.pointer (some ⟨(w.alloc (.map #[] 0)).heap.size, 0, none⟩)) ((w.alloc (.map #[] 0)).alloc ob) ∧ Ranges .u64 inV ((w.alloc (.map #[] 0)).alloc ob) (some lb) (w.alloc (.map #[] 0)).heap.size L []) := (h.same (alloc_old w _ hlb)).range Try.underlying75
  clear h hi
  go_enter Try.func36, Try.ntmps36
  go_wp2_with (at_range; refine wpList_range_at HR.out rfl _ rfl rfl ?_)
  intro ob hrg
  have hB2 : Below w.heap.size w ((w.alloc (.map #[] 0)).alloc ob) := ((Below.refl _ w).alloc (Nat.le_refl _) _).alloc (by simp) _
  have hT : Two verV ((w.alloc (.map #[] 0)).alloc ob) w.heap.size [] := ⟨(MapAt.new .u64 inV w).same (alloc_old _ _ (by simp)), fun p hp => (by cases hp), by simp⟩
  have H0 : Hid (CopyInv w lb w.heap.size (w.heap.size + 1) L ((w.alloc (.map #[] 0)).alloc ob) [] []) := ⟨by simpa using hrg, hT, rfl, fun p hp => (by cases hp), hB2⟩
  clear hrg hB2 hT
  go_wp2_with fail
  go_loopw [] (fun wr => ∃ done M, CopyInv w lb w.heap.size (w.heap.size + 1) L wr done M) (fun wr => L.length - seenAt wr (w.heap.size + 1))
  case atStart => exact ⟨[], [], H0.out⟩
  case round =>
    obtain ⟨done, M, hI⟩ := hrel
    have HIV : Hid (CopyInv w lb w.heap.size (w.heap.size + 1) L wr done M) := hI
    clear hI
    go_wp2_with (at_next; refine wpList_next_at HIV.out.rng rfl _ rfl rfl ?_ ?_)
    · intro hall
      have HALL : Hid (AllIn L done) := hall
      clear hall
      go_wp2_with fail
      go_ret
      have h := HIV.out
      obtain ⟨_, _, hdn, hdm⟩ := h.rng.seen
      refine ⟨_, M, rfl, h.two, fun a => ?_, Nat.le_refl _, fun p hp => (h.new p hp).1, h.below⟩
      have e1 : mget a done = mget a L := mget_same hdn HH.out.nodup (fun p => ⟨hdm p, HALL.out p⟩) a
      rw [← e1, mget_map, mget_map]
      exact congrArg _ h.eq
    · intro k xb xm w' hm hk hr2 ho hen
      have hmx := HI.out _ hm
      have hbw : Below w.heap.size w w' := HIV.out.below.trans ⟨ho.os, ho.tape, ho.output, Nat.le_of_eq ho.size.symm, fun b hb => ho.block b (by omega)⟩
      have HMX : Hid (MapAt .i64 verV w' xb xm) := hmx.same (hbw.block xb hmx.lt)
      have HR2 : Hid (Ranges .u64 inV w' (some lb) (w.heap.size + 1) L (done ++ [(k, xb, xm)])) := hr2
      have HO : Hid (OneD (w.heap.size + 1) wr w') := ho
      have HKK : Hid (k ∉ keys done) := hk
      have hen' : (Instr.entry (.pointer (some ⟨w.heap.size + 1, 0, none⟩))).run Try.prog w' = .ok (.tuple #[.int .u64 k, .map (some xb)]) w' := hen
      have hsn0 := HIV.out.rng.seen
      have hsn := hr2.seen
      try rw [show inV (xb, xm) = .map (some xb) from rfl]
      clear hen hmx hbw hr2 ho hk hm
      go_wp2_with fail
      refine (Clone_any xb w' HMX.out).mono ?_
      rintro e w6 ⟨rfl, hc6, hs6, hb6⟩
      have hM6 : MapAt .u64 inV w6 w.heap.size M := HIV.out.two.1.same ((hb6.block _ (by have := HIV.out.two.1.lt; have := HO.out.size; omega)).trans (HO.out.block _ (by omega)))
      have HM6 : Hid (MapAt .u64 inV w6 w.heap.size M) := hM6
      have HC6 : Hid (MapAt .i64 verV w6 w'.heap.size xm ∧ Below w'.heap.size w' w6) := ⟨hc6, hb6⟩
      clear hc6 hb6 hM6
      go_wp2_with (at_mapUpdate; refine wpList_update HM6.out rfl _ _ _ _ _ _ rfl Try.underlying75 Try.underlying35 k (w'.heap.size, xm) rfl rfl rfl ?_)
      intro w7 hu7 ho7
      have HN : Hid (∃ done' M', CopyInv w lb w.heap.size (w.heap.size + 1) L w7 done' M') := HIV.out.next (x := (xb, xm)) hlb (Nat.le_refl _) (by omega) (by omega) HKK.out HR2.out HO.out HC6.out.1 HC6.out.2 hu7 ho7
      have hseen : seenAt w7 (w.heap.size + 1) = seenAt w' (w.heap.size + 1) := by
        unfold seenAt
        rw [ho7.block _ (by omega), HC6.out.2.block _ HR2.out.lt]
      clear hu7 ho7
      go_wp2_with fail
      go_roundw
      case rel => exact HN.out
      case measure =>
        rw [hseen, hsn.1, hsn0.1]
        have := hsn.2.1
        rw [List.length_append, List.length_singleton] at this ⊢
        omega
end Go.Proofs.Ytpmmpdkeahmdiaa

/- Crash: what its loops keep. -/
namespace Go.Proofs.Ytpmmpdkeahmdiaa
open Go.RowKit
set_option maxRecDepth 100000

theorem sorted_leI (xs : List Int) : (SrtI.sorted xs).Pairwise (· ≤ ·) := sorted_le xs
theorem mem_sortedI (xs : List Int) (x : Int) : x ∈ SrtI.sorted xs ↔ x ∈ xs := mem_sorted xs x
theorem strict_sortedI {xs : List Int} (h : xs.Nodup) : (SrtI.sorted xs).Pairwise (· < ·) := strict_sortedU h
/-- Whole numbers that are read. -/
def IntsAt (w : World) (v : Value) (ps : List Int) : Prop :=
  ∃ ad cap, v = .slice ad ps.length cap ∧ ps.length ≤ cap ∧ ps.length ≤ 9223372036854775807 ∧ (0 < ps.length → ∃ b off, ad = some ⟨b, off, none⟩ ∧ b < w.heap.size ∧ ∀ (j : Nat) x, ps[j]? = some x → w.cell? ⟨b, off + j, none⟩ = some (.int .i64 x)) ∧ ∀ x ∈ ps, -9223372036854775808 ≤ x ∧ x ≤ 9223372036854775807
theorem IntsAt.below {w w' : World} {v : Value} {ps : List Int} (h : IntsAt w v ps) (hb : Below w.heap.size w w') : IntsAt w' v ps := by
  obtain ⟨ad, cap, rfl, h1, h2, hc, h3⟩ := h
  refine ⟨ad, cap, rfl, h1, h2, fun h0 => ?_, h3⟩
  obtain ⟨b, off, rfl, hl, hx⟩ := hc h0
  exact ⟨b, off, rfl, Nat.lt_of_lt_of_le hl hb.size, fun j x hj => (hb.cell (p := ⟨b, off + j, none⟩) hl).trans (hx j x hj)⟩
theorem IntsAt.tail {w : World} {b off cap : Nat} {x : Int} {r : List Int} (h : IntsAt w (.slice (some ⟨b, off, none⟩) (x :: r).length cap) (x :: r)) : IntsAt w (.slice (if cap = 1 then some ⟨b, off, none⟩ else some ⟨b, off + 1, none⟩) r.length (cap - 1)) r := by
  obtain ⟨ad, cap', e, h1, h2, hc, h3⟩ := h
  simp only [Value.slice.injEq] at e
  obtain ⟨rfl, _, rfl⟩ := e
  simp only [List.length_cons] at h1 h2 hc
  refine ⟨_, _, rfl, by omega, by omega, fun h0 => ?_, fun y hy => h3 y (.tail _ hy)⟩
  rw [if_neg (by omega)]
  obtain ⟨b', off', e, hl, hx⟩ := hc (by omega)
  simp only [Option.some.injEq, Addr.mk.injEq, and_true] at e
  obtain ⟨rfl, rfl⟩ := e
  exact ⟨b, off + 1, rfl, hl, fun j y hj => by
    have := hx (j + 1) y (by simpa using hj)
    rw [← Nat.add_assoc] at this
    rw [Nat.add_assoc, Nat.add_comm 1 j, ← Nat.add_assoc]
    exact this⟩
abbrev ML := List (Int × Nat × List (Int × List Nat))
structure CrashR (w : World) (q mb fbq : Nat) (room : Int) (wr : World) (M : ML) (f : Int → Int → Option (List Nat)) : Prop where
  two : Two verV wr mb M
  ne : ∀ p ∈ M, p.2.2 ≠ [] ∧ ∀ s ∈ p.2.2, s.2.length = 64
  get : ∀ a n, twoGet M a n = f a n
  newm : w.heap.size ≤ mb
  new : ∀ p ∈ M, w.heap.size ≤ p.2.1 ∧ p.2.1 ≠ q ∧ p.2.1 ≠ fbq
  qb : wr.heap[q]? = some (dC room 0 0 false false 0 mb fbq)
  fb : MapAt .u64 inV wr fbq ([] : List (Int × Nat × List (Int × FS)))
  ap : q ≠ mb ∧ fbq ≠ mb ∧ q ≠ fbq
  qge : w.heap.size ≤ q ∧ w.heap.size ≤ fbq
  below : Below w.heap.size w wr
theorem CrashR.then {w : World} {q mb fbq : Nat} {room : Int} {wr wr' : World} {M : ML} {f : Int → Int → Option (List Nat)} (h : CrashR w q mb fbq room wr M f) (hb : Below wr.heap.size wr wr') : CrashR w q mb fbq room wr' M f :=
  ⟨⟨h.two.1.same (hb.block _ h.two.1.lt), fun p hp => (h.two.2.1 p hp).same (hb.block _ (h.two.2.1 p hp).lt), h.two.2.2⟩, h.ne, h.get, h.newm, h.new, (hb.block q (Array.getElem?_eq_some_iff.1 h.qb).1).trans h.qb, h.fb.same (hb.block _ h.fb.lt), h.ap, h.qge, h.below.trans (hb.mono h.below.size)⟩
theorem CrashR.ext {w : World} {q mb fbq : Nat} {room : Int} {wr : World} {M : ML} {f g : Int → Int → Option (List Nat)} (h : CrashR w q mb fbq room wr M f) (e : ∀ a n, f a n = g a n) : CrashR w q mb fbq room wr M g :=
  { h with get := fun a n => (h.get a n).trans (e a n) }
theorem CrashR.put {w : World} {q mb fbq : Nat} {room : Int} {wr wr' : World} {M : ML} {f g : Int → Int → Option (List Nat)} {a n : Int} {v : List Nat} (h : CrashR w q mb fbq room wr M f) (hv : v.length = 64) (hp : PutPost verV a n v mb M wr wr') (e : ∀ a' n', g a' n' = if a' = a ∧ n' = n then some v else f a' n') :
    ∃ M', CrashR w q mb fbq room wr' M' g ∧ (∀ p ∈ M', (∃ p0 ∈ M, p0.2.1 = p.2.1) ∨ wr.heap.size ≤ p.2.1) ∧ (∀ k, k < wr.heap.size → k ≠ mb → (∀ p ∈ M, p.2.1 ≠ k) → wr'.heap[k]? = wr.heap[k]?) ∧ wr.heap.size ≤ wr'.heap.size := by
  obtain ⟨nb, ht, hnb, hnb', ho1, ho2, ho3, hs, hfar⟩ := hp
  have hwr := h.below.size
  have hql := (Array.getElem?_eq_some_iff.1 h.qb).1
  have hfl := h.fb.lt
  have hin : ∀ x, mget a M = some x → (a, x) ∈ M := fun x hx => mem_keys_of_mget hx
  refine ⟨putM a n v nb M, ⟨ht, fun p hp => ?_, fun a' n' => ?_, h.newm, fun p hp => ?_, ?_, ?_, h.ap, h.qge, ?_⟩, fun p hp => ?_, fun k hk h1 h2 => hfar k hk h1 fun x hx e2 => h2 _ (hin x hx) e2.symm, hs⟩
  · unfold putM at hp
    rcases mem_mput_ne h.two.1.nodup hp with e1 | ⟨hp, _⟩
    · subst e1
      cases hm : mget a M with
      | none => exact ⟨by simp, fun s hs => by simp at hs; rw [hs]; exact hv⟩
      | some x =>
        obtain ⟨h1, h2⟩ := h.ne _ (hin x hm)
        refine ⟨fun e2 => ?_, fun s hs => ?_⟩
        · have := (mput_perm n v x.2).length_eq
          simp only at e2
          rw [e2] at this
          simp at this
        · rcases mem_mput_ne (h.two.2.1 _ (hin x hm)).nodup hs with e3 | ⟨hs, _⟩
          · rw [e3]; exact hv
          · exact h2 s hs
    · exact h.ne p hp
  · rw [twoGet_put, e, h.get]
  · unfold putM at hp
    rcases mem_mput_ne h.two.1.nodup hp with e1 | ⟨hp, _⟩
    · subst e1
      cases hm : mget a M with
      | none =>
        have := hnb hm
        exact ⟨by show w.heap.size ≤ nb; omega, by show nb ≠ q; omega, by show nb ≠ fbq; omega⟩
      | some x =>
        have := h.new _ (hin x hm)
        simpa only using this
    · exact h.new p hp
  · rw [hfar q hql h.ap.1 fun x hx e2 => (h.new _ (hin x hx)).2.1 e2.symm]
    exact h.qb
  · exact h.fb.same (hfar fbq hfl h.ap.2.1 fun x hx e2 => (h.new _ (hin x hx)).2.2 e2.symm)
  · refine ⟨ho1.trans h.below.os, ho2.trans h.below.tape, ho3.trans h.below.output, by omega, fun b hb => ?_⟩
    rw [hfar b (by omega) (by have := h.newm; omega) fun x hx e2 => by have := (h.new _ (hin x hx)).1; simp only at this; omega]
    exact h.below.block b hb
  · unfold putM at hp
    rcases mem_mput_ne h.two.1.nodup hp with e1 | ⟨hp, _⟩
    · subst e1
      cases hm : mget a M with
      | none => exact .inr (hnb hm)
      | some x => exact .inl ⟨_, hin x hm, rfl⟩
    · exact .inl ⟨p, hp, rfl⟩
/-- Blocks that the loops only read. -/
def Prot (G : List Nat) (w4 wr : World) (mb : Nat) (M : ML) : Prop := w4.heap.size ≤ wr.heap.size ∧ ∀ g ∈ G, g < w4.heap.size ∧ wr.heap[g]? = w4.heap[g]? ∧ g ≠ mb ∧ ∀ p ∈ M, p.2.1 ≠ g
theorem Prot.then {G : List Nat} {w4 wr wr' : World} {mb : Nat} {M : ML} (h : Prot G w4 wr mb M) (hb : Below wr.heap.size wr wr') : Prot G w4 wr' mb M :=
  ⟨Nat.le_trans h.1 hb.size, fun g hg => ⟨(h.2 g hg).1, (hb.block g (Nat.lt_of_lt_of_le (h.2 g hg).1 h.1)).trans (h.2 g hg).2.1, (h.2 g hg).2.2⟩⟩
theorem Prot.put {G : List Nat} {w4 wr wr' : World} {mb : Nat} {M M' : ML} (h : Prot G w4 wr mb M) (h1 : ∀ p ∈ M', (∃ p0 ∈ M, p0.2.1 = p.2.1) ∨ wr.heap.size ≤ p.2.1) (h2 : ∀ k, k < wr.heap.size → k ≠ mb → (∀ p ∈ M, p.2.1 ≠ k) → wr'.heap[k]? = wr.heap[k]?) (h3 : wr.heap.size ≤ wr'.heap.size) : Prot G w4 wr' mb M' := by
  refine ⟨Nat.le_trans h.1 h3, fun g hg => ?_⟩
  obtain ⟨g1, g2, g3, g4⟩ := h.2 g hg
  refine ⟨g1, (h2 g (Nat.lt_of_lt_of_le g1 h.1) g3 g4).trans g2, g3, fun p hp => ?_⟩
  rcases h1 p hp with ⟨p0, hp0, e⟩ | hp
  · rw [← e]; exact g4 p0 hp0
  · have := h.1; omega
/-- A row of numbers that a call has made. -/
def RowAt (q : IntKind) (B : Nat) (w : World) (v : Value) (xs : List Int) : Prop := (v = .slice none 0 0 ∧ xs = []) ∨ ∃ g cap, v = .slice (some ⟨g, 0, none⟩) xs.length cap ∧ B ≤ g ∧ g < w.heap.size ∧ ∀ (j : Nat) x, xs[j]? = some x → w.cell? ⟨g, j, none⟩ = some (.int q x)
theorem RowAt.of_own {q : IntKind} {B : Nat} {w : World} {v : Value} {xs : List Int} {t : TypeId} {k : Nat} (h : w.ownsRow B t 1 v k (xs.map (Value.int q))) : RowAt q B w v xs := by
  obtain ⟨h1, h2⟩ := h
  have hk : xs.length = k := by simpa using h1
  subst hk
  rcases h2 with ⟨rfl, h0⟩ | ⟨g, cap, cur, rfl, hb, hh, h3, h4, h5, h6⟩
  · exact .inl ⟨rfl, List.eq_nil_of_length_eq_zero h0⟩
  · refine .inr ⟨g, cap, rfl, hb, (Array.getElem?_eq_some_iff.1 hh).1, fun j x hj => ?_⟩
    have e : (xs.map (Value.int q))[j]? = some (.int q x) := by rw [List.getElem?_map, hj]; rfl
    rw [← h6, Nat.mul_one, List.getElem?_take] at e
    split at e
    · simpa [World.cell?, hh] using e
    · cases e
theorem RowAt.shape {q : IntKind} {B : Nat} {w : World} {v : Value} {xs : List Int} (h : RowAt q B w v xs) : ∃ ad cap, v = .slice ad xs.length cap := by
  rcases h with ⟨rfl, rfl⟩ | ⟨g, cap, rfl, _⟩
  · exact ⟨none, 0, rfl⟩
  · exact ⟨_, cap, rfl⟩
/-- Which block a row lies in, to be kept. -/
theorem RowAt.prot {q : IntKind} {B : Nat} {w : World} {v : Value} {xs : List Int} (h : RowAt q B w v xs) : ∃ G : List Nat, (∀ g ∈ G, B ≤ g ∧ g < w.heap.size) ∧ ∀ (i : Nat) x, xs[i]? = some x → ∃ g cap, v = .slice (some ⟨g, 0, none⟩) xs.length cap ∧ g ∈ G ∧ w.cell? ⟨g, i, none⟩ = some (.int q x) := by
  rcases h with ⟨rfl, rfl⟩ | ⟨g, cap, rfl, h1, h2, h3⟩
  · exact ⟨[], fun g hg => (by cases hg), fun i x hx => by simp at hx⟩
  · exact ⟨[g], fun g' hg => by rw [List.mem_singleton.1 hg]; exact ⟨h1, h2⟩, fun i x hx => ⟨g, cap, rfl, .head _, h3 i x hx⟩⟩
theorem Prot.start {G : List Nat} {w0 w4 : World} {mb : Nat} {M : ML} (ht : Two verV w0 mb M) (hG : ∀ g ∈ G, w0.heap.size ≤ g ∧ g < w4.heap.size) : Prot G w4 w4 mb M :=
  ⟨Nat.le_refl _, fun g hg => ⟨(hG g hg).2, rfl, by have := ht.1.lt; have := (hG g hg).1; omega, fun p hp => by have := (ht.2.1 p hp).lt; have := (hG g hg).1; omega⟩⟩
theorem Prot.cell {G : List Nat} {w4 wr : World} {mb : Nat} {M : ML} (h : Prot G w4 wr mb M) {g o : Nat} {v : Value} (hg : g ∈ G) (hc : w4.cell? ⟨g, o, none⟩ = some v) : wr.cell? ⟨g, o, none⟩ = some v := (World.cell?_of_block (a := ⟨g, o, none⟩) (h.2 g hg).2.1).trans hc
def innerK (sh : Sh) (a : Int) : List (Int × Int) := (SrtI.sorted (keys (inF sh a))).map fun n => (a, n)
def stK (sh : Sh) (ps : List Int) (K : List (Int × Int)) : (Int → Int → Option (List Nat)) × List Int := K.foldl (cstep (fget sh)) (lget sh, ps)
theorem stK_snoc (sh : Sh) (ps : List Int) (K : List (Int × Int)) (k : Int × Int) : stK sh ps (K ++ [k]) = cstep (fget sh) (stK sh ps K) k := by rw [stK, List.foldl_append]; rfl
theorem tmod_nat (p L : Nat) : Int.tmod (p : Int) ((L : Int) + 1) = ((p % (L + 1) : Nat) : Int) := by
  have : ((L : Int) + 1) = ((L + 1 : Nat) : Int) := by omega
  rw [this, Int.tmod_eq_emod_of_nonneg (by omega)]
  rfl
theorem riseF' {w : World} {sh : Sh} (h : Held w sh) (hl : sh.F.length < 1099511627776) :
    Calls Try.prog 37 #[.map (some sh.fb)] w fun e w' => ∃ v, e = .returned v ∧ RowAt .u64 w.heap.size w' v (SrtU.sorted (keys sh.F)) ∧ Below w.heap.size w w' := by
  refine (IterF.rising_any (f := inV) (m := sh.F) (bo := some sh.fb) w h.hf.nodup hl (fun W hW => (held_below h hW).hf.range Try.underlying76)).mono ?_
  rintro e w' ⟨v, rfl, h1, h2, h3⟩
  exact ⟨v, rfl, RowAt.of_own h1, h3⟩
theorem atA_bo {β : Type} (a : Int) (M : List (Int × Nat × β)) : atA a M = .map (boOf a M) := by
  unfold atA boOf
  cases mget a M <;> rfl
theorem riseS {w : World} {sh : Sh} (h : Held w sh) (a : Int) (hl : (inF sh a).length < 1099511627776) :
    Calls Try.prog 38 #[atA a sh.F] w fun e w' => ∃ v, e = .returned v ∧ RowAt .i64 w.heap.size w' v (SrtI.sorted (keys (inF sh a))) ∧ Below w.heap.size w w' := by
  rw [atA_bo]
  refine (IterS.rising_any (f := fsV) (m := inF sh a) (bo := boOf a sh.F) w (inF_nodup h a) hl (fun W hW => by have := range_F (held_below h hW) a; rwa [atA_bo] at this)).mono ?_
  rintro e w' ⟨v, rfl, h1, h2, h3⟩
  exact ⟨v, rfl, RowAt.of_own h1, h3⟩
end Go.Proofs.Ytpmmpdkeahmdiaa

/- Crash: how many sectors are found, and the disk that is found. -/
namespace Go.Proofs.Ytpmmpdkeahmdiaa
open Go.RowKit
set_option maxRecDepth 100000

def pairsOf (M : ML) : List (Int × Int) := M.flatMap fun p => p.2.2.map fun s => (p.1, s.1)
def sumML (M : ML) : Nat := (M.map fun p => p.2.2.length).sum
theorem pairs_len : ∀ M : ML, (pairsOf M).length = sumML M
  | [] => rfl
  | p :: r => by
    have := pairs_len r
    unfold pairsOf sumML at *
    rw [List.flatMap_cons, List.length_append, this]
    simp
theorem pairs_nodup {M : ML} (h : (keys M).Nodup) (hi : ∀ p ∈ M, (keys p.2.2).Nodup) : (pairsOf M).Nodup := by
  unfold pairsOf
  rw [List.Nodup, List.pairwise_flatMap]
  refine ⟨fun p hp => ?_, ?_⟩
  · have := hi p hp
    unfold keys at this
    rw [List.Nodup, List.pairwise_map] at this
    rw [List.pairwise_map]
    exact this.imp fun {s t} hst e => hst (by simpa using e)
  · have h' : M.Pairwise fun p q => p.1 ≠ q.1 := by
      unfold keys at h
      rw [List.Nodup, List.pairwise_map] at h
      exact h
    refine h'.imp fun {p q} hpq => ?_
    intro x hx y hy e
    obtain ⟨s, _, rfl⟩ := List.mem_map.1 hx
    obtain ⟨t, _, rfl⟩ := List.mem_map.1 hy
    simp only [Prod.mk.injEq] at e
    exact hpq e.1
theorem mem_pairs {M : ML} (h : (keys M).Nodup) (hi : ∀ p ∈ M, (keys p.2.2).Nodup) (a n : Int) : (a, n) ∈ pairsOf M ↔ (twoGet M a n).isSome = true := by
  constructor
  · intro hm
    obtain ⟨p, hp, hm⟩ := List.mem_flatMap.1 hm
    obtain ⟨s, hs, e⟩ := List.mem_map.1 hm
    simp only [Prod.mk.injEq] at e
    obtain ⟨rfl, rfl⟩ := e
    unfold twoGet
    rw [mget_of_mem h (show (p.1, p.2) ∈ M from hp), Option.bind_some, mget_of_mem (hi p hp) (show (s.1, s.2) ∈ p.2.2 from hs)]
    rfl
  · intro hm
    obtain ⟨v, hv⟩ := Option.isSome_iff_exists.1 hm
    obtain ⟨x, hx, hy⟩ := Option.bind_eq_some_iff.1 hv
    exact List.mem_flatMap.2 ⟨_, mem_keys_of_mget hx, List.mem_map.2 ⟨_, mem_keys_of_mget hy, rfl⟩⟩
theorem pairs_sub {M D : ML} (hD : ∀ p ∈ D, p ∈ M) : ∀ x ∈ pairsOf D, x ∈ pairsOf M := fun x hx => by
  obtain ⟨p, hp, hm⟩ := List.mem_flatMap.1 hx
  exact List.mem_flatMap.2 ⟨p, hD p hp, hm⟩
theorem len_sub : ∀ (l l' : List (Int × Int)), l.Nodup → (∀ x ∈ l, x ∈ l') → l.length ≤ l'.length
  | [], _, _, _ => Nat.zero_le _
  | x :: r, l', hn, hs => by
    obtain ⟨h1, h2⟩ := List.nodup_cons.1 hn
    have hx := hs x (.head _)
    have ih := len_sub r (l'.erase x) h2 fun y hy => (List.mem_erase_of_ne (fun e : y = x => h1 (by rw [← e]; exact hy))).2 (hs y (.tail _ hy))
    rw [List.length_erase_of_mem hx] at ih
    have := List.length_pos_of_mem hx
    simp only [List.length_cons]
    omega
theorem crashS_len : ∀ (ps : List Int) (S : List Sec), (crashS ps S).length ≤ S.length
  | _, [] => Nat.le_refl _
  | ps, s :: r => by
    rw [crashS]
    split
    · have := crashS_len ps r
      simp only [List.length_cons]; omega
    · have := crashS_len ps.tail r
      have h1 : (crashSec (ps.headD 0) s).length ≤ 1 := by unfold crashSec; split <;> simp
      rw [List.length_append, List.length_cons]; omega
theorem find_some_iff {a n : Int} {S : List Sec} : (findS a n S).isSome = true ↔ (a, n) ∈ S.map fun s => (s.area, s.n) := by
  constructor
  · intro h
    obtain ⟨s, hs⟩ := Option.isSome_iff_exists.1 h
    obtain ⟨e1, e2⟩ := findS_at hs
    exact List.mem_map.2 ⟨s, findS_mem hs, by rw [e1, e2]⟩
  · intro h
    obtain ⟨s, hs, e⟩ := List.mem_map.1 h
    simp only [Prod.mk.injEq] at e
    cases hf : findS a n S with
    | some _ => rfl
    | none =>
      exfalso
      induction S with
      | nil => cases hs
      | cons t r ih =>
        rw [findS] at hf
        split at hf
        · cases hf
        · rename_i hne
          rcases List.mem_cons.1 hs with rfl | hs
          · exact hne e
          · exact ih (List.mem_map.2 ⟨s, hs, by rw [e.1, e.2]⟩) hs hf
theorem sum_crash {M : ML} {S : List Sec} (h : (keys M).Nodup) (hi : ∀ p ∈ M, (keys p.2.2).Nodup) (hs : S.Pairwise Sec.before) (hl : ∀ s ∈ S, s.last ≠ none) (hg : ∀ a n, twoGet M a n = (findS a n S).bind (·.last)) : sumML M = S.length := by
  have key : ∀ a n, (a, n) ∈ pairsOf M ↔ (a, n) ∈ S.map fun s => (s.area, s.n) := fun a n => by
    rw [mem_pairs h hi, hg, ← find_some_iff]
    cases hf : findS a n S with
    | none => simp
    | some s =>
      have := hl s (findS_mem hf)
      cases hll : s.last with
      | none => exact absurd hll this
      | some v => simp [hll]
  have hn : (S.map fun s => (s.area, s.n)).Nodup := by
    rw [List.Nodup, List.pairwise_map]
    refine hs.imp fun {s t} hst e => ?_
    simp only [Prod.mk.injEq] at e
    unfold Sec.before at hst
    omega
  have l1 := len_sub _ _ (pairs_nodup h hi) fun x hx => (key x.1 x.2).1 hx
  have l2 := len_sub _ _ hn fun x hx => (key x.1 x.2).2 hx
  rw [pairs_len, List.length_map] at *
  omega
theorem sum_done {M D : ML} (h : (keys D).Nodup) (hi : ∀ p ∈ M, (keys p.2.2).Nodup) (hD : ∀ p ∈ D, p ∈ M) : sumML D ≤ sumML M := by
  rw [← pairs_len, ← pairs_len]
  exact len_sub _ _ (pairs_nodup h fun p hp => hi p (hD p hp)) (pairs_sub hD)
theorem sum_all {M D : ML} (hM : (keys M).Nodup) (h : (keys D).Nodup) (hi : ∀ p ∈ M, (keys p.2.2).Nodup) (hD : ∀ p ∈ D, p ∈ M) (hA : ∀ p ∈ M, p ∈ D) : sumML D = sumML M := by
  have h1 := sum_done h hi hD
  have h2 := sum_done (M := D) hM (fun p hp => hi p (hD p hp)) hA
  omega
theorem sum_snoc (D : ML) (k : Int) (b : Nat) (m : List (Int × List Nat)) : sumML (D ++ [(k, b, m)]) = sumML D + m.length := by simp [sumML]
/-- The disk that is found. -/
theorem found_disk {N : Nat} {w wr wr' : World} {q mb fbq : Nat} {room : Int} {M : ML} {f : Int → Int → Option (List Nat)} {S : List Sec} (h : CrashR w q mb fbq room wr M f) (hs : S.Pairwise Sec.before) (hl : ∀ s ∈ S, s.last ≠ none ∧ s.fresh = []) (hg : ∀ a n, f a n = (findS a n S).bind (·.last))
    (hq : wr'.heap[q]? = some (dC room (S.length : Int) 0 false false 0 mb fbq)) (hst : ∀ k, k < wr.heap.size → k ≠ q → wr'.heap[k]? = wr.heap[k]?) (r1 : 0 ≤ room) (r2 : room ≤ 9223372036854775807) (n1 : S.length ≤ N) (n2 : (S.length : Int) ≤ room) :
    ∃ fq, DiskAt N wr' q ⟨room, 0, 0, false, false, S⟩ fq ∧ ∀ b ∈ fq, w.heap.size ≤ b := by
  have hM : MapAt .u64 inV wr' mb M := h.two.1.same (hst mb h.two.1.lt h.ap.1.symm)
  have hge : ∀ b ∈ q :: Sh.blocks ⟨mb, fbq, M, []⟩, w.heap.size ≤ b := fun b hb => by
    simp only [Sh.blocks, Sh.lblocks, Sh.fblocks, List.flatMap_nil, List.append_nil, List.mem_cons] at hb
    rcases hb with rfl | rfl | rfl | hb
    · exact h.qge.1
    · exact h.newm
    · exact h.qge.2
    · obtain ⟨p, hp, rfl⟩ := List.mem_map.1 hb
      exact (h.new p hp).1
  refine ⟨q :: Sh.blocks ⟨mb, fbq, M, []⟩, ⟨⟨mb, fbq, M, []⟩, hq, ⟨hM, h.fb.same (hst fbq h.fb.lt h.ap.2.2.symm), fun p hp => ⟨(h.two.2.1 p hp).same (hst _ (h.two.2.1 p hp).lt (h.new p hp).2.1), (h.ne p hp).2, (h.ne p hp).1⟩, fun p hp => (by cases hp)⟩, ⟨hs, fun a n => ?_, fun a n => ?_, fun s hs' => .inl (hl s hs').1⟩, rfl, ?_, r1, r2, Int.le_refl _, ?_, n1, n2, fun s hs' => ?_, (show (-9223372036854775808 : Int) ≤ 0 by decide), (show (0 : Int) ≤ 9223372036854775807 by decide), fun e => (by cases e)⟩, hge⟩
  · show twoGet M a n = _
    rw [h.get, hg]
  · show [] = _
    cases hf : findS a n S with
    | none => rfl
    | some s => simp [(hl s (findS_mem hf)).2]
  · simp only [Sh.blocks, Sh.lblocks, Sh.fblocks, List.flatMap_nil, List.append_nil, List.nodup_cons, List.mem_cons, not_or]
    have hn := List.nodup_cons.1 h.two.2.2
    refine ⟨⟨h.ap.1, h.ap.2.2, fun hm => ?_⟩, ⟨h.ap.2.1.symm, hn.1⟩, fun hm => ?_, hn.2⟩
    · obtain ⟨p, hp, e⟩ := List.mem_map.1 hm
      exact (h.new p hp).2.1 e
    · obtain ⟨p, hp, e⟩ := List.mem_map.1 hm
      exact (h.new p hp).2.2 e
  · show (0 : Int) ≤ (N : Int)
    omega
  · rw [(hl s hs').2]; simp
end Go.Proofs.Ytpmmpdkeahmdiaa

/- Crash. -/
namespace Go.Proofs.Ytpmmpdkeahmdiaa
open Go.RowKit
set_option maxRecDepth 100000

def crashD (d : DS) (ps : List Int) : DS := ⟨d.room, 0, 0, false, false, crashS ps d.secs⟩
theorem empty_disk {w : World} {sh : Sh} (h : Held w sh) (hr : Rep sh []) : sh.L = [] ∧ sh.F = [] := by
  obtain ⟨h1, h2⟩ := len_areas h hr
  exact ⟨List.eq_nil_of_length_eq_zero (Nat.le_zero.1 h1), List.eq_nil_of_length_eq_zero (Nat.le_zero.1 h2)⟩
theorem copied_get {M L : ML} (h : ∀ a, (mget a M).map (·.2) = (mget a L).map (·.2)) (a n : Int) : twoGet M a n = twoGet L a n := by
  have := h a
  unfold twoGet
  cases hm : mget a M with
  | none =>
    cases hl : mget a L with
    | none => rfl
    | some y => rw [hm, hl] at this; simp at this
  | some x =>
    cases hl : mget a L with
    | none => rw [hm, hl] at this; simp at this
    | some y =>
      rw [hm, hl] at this
      simp only [Option.map_some, Option.some.injEq] at this
      simp only [Option.bind_some, this]
theorem crash_start {w w1 w2 : World} {sh sh0 : Sh} {q mb : Nat} {room : Int} {M : ML} (hh : Held w sh) (hq : w1.heap[q]? = some (dC room 0 0 false false 0 sh0.lb sh0.fb)) (h0 : Held w1 sh0) (he : sh0.F = []) (hn : (q :: sh0.blocks).Nodup) (hge : ∀ b ∈ q :: sh0.blocks, w.heap.size ≤ b) (hb1 : Below w.heap.size w w1)
    (ht : Two verV w2 mb M) (hg : ∀ a, (mget a M).map (·.2) = (mget a sh.L).map (·.2)) (hmb : w1.heap.size ≤ mb) (hM : ∀ p ∈ M, w1.heap.size ≤ p.2.1) (hb2 : Below w1.heap.size w1 w2) :
    CrashR w q mb sh0.fb room (w2.setCell ⟨q, 6, none⟩ (.map (some mb))) M (lget sh) := by
  have hql := (Array.getElem?_eq_some_iff.1 hq).1
  have hs1 := hb1.size
  have hf0 := h0.hf
  rw [he] at hf0
  have hfl := hf0.lt
  have hne : ∀ k, k ≠ q → (w2.setCell ⟨q, 6, none⟩ (.map (some mb))).heap[k]? = w2.heap[k]? := fun k hk => Below.heap_setCell _ _ _ _ hk
  have hqf : q ≠ sh0.fb := fun e => (List.nodup_cons.1 hn).1 (by rw [e]; exact .tail _ (.head _))
  refine ⟨⟨ht.1.same (hne mb (by omega)), fun p hp => (ht.2.1 p hp).same (hne _ (by have := hM p hp; omega)), ht.2.2⟩, fun p hp => ?_, fun a n => ?_, by omega, fun p hp => ?_, ?_, ?_, ⟨by omega, by omega, hqf⟩, ⟨hge q (.head _), hge _ (.tail _ (.tail _ (.head _)))⟩, ?_⟩
  · have e := hg p.1
    rw [mget_of_mem ht.1.nodup (show (p.1, p.2) ∈ M from hp)] at e
    cases hl : mget p.1 sh.L with
    | none => rw [hl] at e; simp at e
    | some y =>
      rw [hl] at e
      simp only [Option.map_some, Option.some.injEq] at e
      obtain ⟨_, h2, h3⟩ := hh.hli _ (mem_keys_of_mget hl)
      rw [e]
      exact ⟨h3, h2⟩
  · exact copied_get hg a n
  · have := hM p hp
    exact ⟨by omega, by omega, by omega⟩
  · have := set_cell ((hb2.block q hql).trans hq) 6 (.map (some mb))
    exact this
  · exact hf0.same ((hne _ hqf.symm).trans (hb2.block _ hfl))
  · exact (hb1.trans (hb2.mono hs1)).setCell (hge q (.head _)) _
set_option maxHeartbeats 1000000 in
theorem Crash_any (N p : Nat) (d : DS) (fp : List Nat) (v : Value) (ps : List Int) (w : World) (h : DiskAt N w p d fp) (hp : IntsAt w v ps) (hN : N < 1099511627776) :
    Calls Try.prog 12 #[.pointer (some ⟨p, 0, none⟩), v] w fun e w' => ∃ q fq, e = .returned (.pointer (some ⟨q, 0, none⟩)) ∧ DiskAt N w' q (crashD d ps) fq ∧ Below w.heap.size w w' ∧ ∀ b ∈ fq, w.heap.size ≤ b := by
  have HD : Hid (DiskAt N w p d fp) := h
  have HP : Hid (IntsAt w v ps) := hp
  obtain ⟨r1, r2, _⟩ := h.bounds
  obtain ⟨sh, h1, h2, h3, _⟩ := h
  obtain ⟨c0, c1, c2, c3, c4, c5, c6, c7, hz⟩ := disk_cells h1
  have hpl : p < w.heap.size := (Array.getElem?_eq_some_iff.1 h1).1
  have HH : Hid (Held w sh) := h2
  have HR : Hid (Rep sh d.secs) := h3
  have C6 : Hid (w.cell? ⟨p, 6, none⟩ = some (.map (some sh.lb))) := c6
  have C7 : Hid (w.cell? ⟨p, 7, none⟩ = some (.map (some sh.fb))) := c7
  clear h1 h2 h3 c1 c2 c3 c4 c5 c6 c7 hz hp
  go_enter Try.func12, Try.ntmps12
  go_wp2_with fail
  refine (New_any d.room w (by omega) r2).mono ?_
  rintro e w1 ⟨q, fq, rfl, ⟨sh0, hq, hh0, hr0, rfl, hn0, _⟩, hb1, hf1⟩
  obtain ⟨_, hF0⟩ := empty_disk hh0 hr0
  have hrm : max d.room 0 = d.room := by omega
  have hq' : w1.heap[q]? = some (dC d.room 0 0 false false 0 sh0.lb sh0.fb) := by rw [hq]; show some (dC (max d.room 0) 0 0 false false 0 sh0.lb sh0.fb) = _; rw [hrm]
  have c6 := (hb1.cell (p := ⟨p, 6, none⟩) hpl).trans C6.out
  have hql := (Array.getElem?_eq_some_iff.1 hq').1
  have HQ : Hid (w1.heap[q]? = some (dC d.room 0 0 false false 0 sh0.lb sh0.fb)) := hq'
  have HH0 : Hid (Held w1 sh0 ∧ sh0.F = [] ∧ (q :: sh0.blocks).Nodup ∧ (∀ b ∈ q :: sh0.blocks, w.heap.size ≤ b) ∧ Below w.heap.size w w1) := ⟨hh0, hF0, hn0, hf1, hb1⟩
  clear hq hq' hh0 hr0 hn0 hf1 hF0 hb1 hrm c0
  go_wp2_with fail
  refine (copyLasting_any sh.lb sh.L w1 (HH.out.hl.same (HH0.out.2.2.2.2.block _ HH.out.hl.lt)) (fun p hp => (HH.out.hli p hp).1.same (HH0.out.2.2.2.2.block _ (HH.out.hli p hp).1.lt))).mono ?_
  rintro e w2 ⟨mb, M, rfl, ht, hg, hmb, hM, hb2⟩
  have hq2 := (hb2.block q hql).trans HQ.out
  obtain ⟨k0, k1, k2, k3, k4, k5, k6, k7, kz⟩ := disk_cells hq2
  have HCR : Hid (CrashR w q mb sh0.fb d.room (w2.setCell ⟨q, 6, none⟩ (.map (some mb))) M (lget sh)) := crash_start HH.out HQ.out HH0.out.1 HH0.out.2.1 HH0.out.2.2.1 HH0.out.2.2.2.1 HH0.out.2.2.2.2 ht hg hmb hM hb2
  obtain ⟨w3, hw3⟩ : ∃ w3, w2.setCell ⟨q, 6, none⟩ (.map (some mb)) = w3 := ⟨_, rfl⟩
  have C3 : Hid (CrashR w q mb sh0.fb d.room w3 M (lget sh)) := hw3 ▸ HCR.out
  have hc7 : (w2.setCell ⟨q, 6, none⟩ (.map (some mb))).cell? ⟨p, 7, none⟩ = some (.map (some sh.fb)) := (HCR.out.below.cell (p := ⟨p, 7, none⟩) hpl).trans C7.out
  have HW3 : Hid (w2.setCell ⟨q, 6, none⟩ (.map (some mb)) = w3) := hw3
  clear ht hg hmb hM hb2 hq2 HCR hw3 k7 k0 k1 k2 k3 k4 k5 HQ HH0 c6
  go_wp2_with fail
  rw [HW3.out]
  have hFl : sh.F.length < 1099511627776 := by
    have h1 := (len_areas HH.out HR.out).2
    have h2 := HD.out.bounds.2.2.2.2.1
    omega
  refine (riseF' (held_below HH.out C3.out.below) hFl).mono ?_
  rintro e w4 ⟨v32, rfl, hrow4, hb4⟩
  have C4 : Hid (CrashR w q mb sh0.fb d.room w4 M (lget sh)) := C3.out.then hb4
  obtain ⟨G, hG, hGc⟩ := hrow4.prot
  have HG : Hid (∀ (i : Nat) x, (SrtU.sorted (keys sh.F))[i]? = some x → ∃ g cap, v32 = .slice (some ⟨g, 0, none⟩) (SrtU.sorted (keys sh.F)).length cap ∧ g ∈ G ∧ w4.cell? ⟨g, i, none⟩ = some (.int .u64 x)) := hGc
  have P4 : Hid (Prot G w4 w4 mb M) := Prot.start C3.out.two hG
  obtain ⟨A, hA⟩ : ∃ A, SrtU.sorted (keys sh.F) = A := ⟨_, rfl⟩
  rw [hA] at HG
  have HA : Hid (SrtU.sorted (keys sh.F) = A) := hA
  have hAl : A.length < 1099511627776 := by rw [← hA, SrtU.sorted_length]; simp [keys]; omega
  obtain ⟨ad32, cp32, e32⟩ := hrow4.shape
  rw [hA] at e32
  subst e32
  clear hrow4 hb4 hG hGc hA HW3 C3 k6 kz hc7
  go_wp2_with fail
  go_loopw [1, 34] (fun v1 v34 wr => ∃ (i : Nat) (M : ML), v34 = .int .i64 i ∧ i ≤ A.length ∧ IntsAt w v1 (stK sh ps ((A.take i).flatMap (innerK sh))).2 ∧ CrashR w q mb sh0.fb d.room wr M (stK sh ps ((A.take i).flatMap (innerK sh))).1 ∧ Prot G w4 wr mb M) (fun _ v34 _ => A.length - (intOf v34).toNat)
  case atStart => exact ⟨0, M, rfl, Nat.zero_le _, HP.out, C4.out, P4.out⟩
  case round =>
    clear C4 P4
    obtain ⟨i, M, rfl, hi, hvp, hcr, hpr⟩ := hrel
    have CR : Hid (CrashR w q mb sh0.fb d.room wr M (stK sh ps ((A.take i).flatMap (innerK sh))).1) := hcr
    have PR : Hid (Prot G w4 wr mb M) := hpr
    obtain ⟨adp, cpp, e1p, _⟩ := id hvp
    obtain ⟨lp, hlp⟩ : ∃ lp, (stK sh ps ((A.take i).flatMap (innerK sh))).2.length = lp := ⟨_, rfl⟩
    rw [hlp] at e1p
    subst e1p
    have VP : Hid (IntsAt w (.slice adp lp cpp) (stK sh ps ((A.take i).flatMap (innerK sh))).2) := hvp
    clear hlp
    clear hvp hcr hpr
    by_cases hin : i < A.length
    · obtain ⟨a, ha⟩ : ∃ a, A[i]? = some a := ⟨_, List.getElem?_eq_getElem hin⟩
      obtain ⟨g, cp, eg, hg, hgc⟩ := HG.out i a ha
      simp only [Value.slice.injEq] at eg
      obtain ⟨rfl, _, rfl⟩ := eg
      have hgr := PR.out.cell hg hgc
      have hil : (i : Int) < (A.length : Int) := by omega
      have hBw := CR.out.below
      have c7 := (hBw.cell (p := ⟨p, 7, none⟩) hpl).trans C7.out
      have hHw := held_below HH.out hBw
      have hlF := look_F hHw a
      have HHW : Hid (Held wr sh) := hHw
      have HPRE : Hid ((A.take (i + 1)).flatMap (innerK sh) = (A.take i).flatMap (innerK sh) ++ innerK sh a) := by
        show _ = _
        rw [List.take_add_one, ha, Option.toList_some, List.flatMap_append]
        simp
      have hIl : (inF sh a).length < 1099511627776 := by
        have h1 := nodup_len_le (keys (inF sh a)) ((d.secs.filter fun s => s.area = a).map (·.n)) (inF_nodup HH.out a) fun n hn => ((secs_keys HR.out.sorted a).2 n).2 ((find_in_maps HH.out HR.out a n).2 (.inr hn))
        have h2 := List.length_filter_le (fun s : Sec => decide (s.area = a)) d.secs
        have h3 := HD.out.bounds.2.2.2.2.1
        simp [keys] at h1
        omega
      clear ha hgc hBw hHw
      go_wp2_with fail
      refine (riseS HHW.out a hIl).mono ?_
      rintro e w5 ⟨v44, rfl, hrow5, hb5⟩
      have C5 : Hid (CrashR w q mb sh0.fb d.room w5 M (stK sh ps ((A.take i).flatMap (innerK sh))).1) := CR.out.then hb5
      have P5 : Hid (Prot G w4 w5 mb M) := PR.out.then hb5
      obtain ⟨G', hG', hGc'⟩ := hrow5.prot
      have Q5 : Hid (Prot G' w5 w5 mb M) := Prot.start CR.out.two hG'
      obtain ⟨B, hB⟩ : ∃ B, SrtI.sorted (keys (inF sh a)) = B := ⟨_, rfl⟩
      have HB : Hid (SrtI.sorted (keys (inF sh a)) = B) := hB
      rw [hB] at hGc'
      have HG' : Hid (∀ (j : Nat) x, B[j]? = some x → ∃ g cap, v44 = .slice (some ⟨g, 0, none⟩) B.length cap ∧ g ∈ G' ∧ w5.cell? ⟨g, j, none⟩ = some (.int .i64 x)) := hGc'
      have hBl : B.length < 1099511627776 := by rw [← hB, SrtI.sorted_length]; simp [keys]; omega
      obtain ⟨ad44, cp44, e44⟩ := hrow5.shape
      rw [hB] at e44
      subst e44
      obtain ⟨PRE, hPRE⟩ : ∃ PRE, (A.take i).flatMap (innerK sh) = PRE := ⟨_, rfl⟩
      rw [hPRE] at C5 VP HPRE
      clear hrow5 hb5 hG' hGc' hB CR PR hgr hlF c7 hPRE HHW
      go_wp2_with fail
      go_loopw [1, 46] (fun v1 v46 wr => ∃ (j : Nat) (M : ML), v46 = .int .i64 j ∧ j ≤ B.length ∧ IntsAt w v1 (stK sh ps (PRE ++ (B.take j).map fun n => (a, n))).2 ∧ CrashR w q mb sh0.fb d.room wr M (stK sh ps (PRE ++ (B.take j).map fun n => (a, n))).1 ∧ Prot G w4 wr mb M ∧ Prot G' w5 wr mb M) (fun _ v46 _ => B.length - (intOf v46).toNat)
      case atStart => exact ⟨0, M, rfl, Nat.zero_le _, by simpa using VP.out, by simpa using C5.out, P5.out, Q5.out⟩
      case round =>
        clear C5 P5 Q5 VP
        obtain ⟨j, M, rfl, hj, hvp, hcr, hpr, hqr⟩ := hrel
        obtain ⟨st0, hst0⟩ : ∃ st0, stK sh ps (PRE ++ (B.take j).map fun n => (a, n)) = st0 := ⟨_, rfl⟩
        rw [hst0] at hvp hcr
        have CR : Hid (CrashR w q mb sh0.fb d.room wr M st0.1) := hcr
        have PR : Hid (Prot G w4 wr mb M) := hpr
        have QR : Hid (Prot G' w5 wr mb M) := hqr
        have VP : Hid (IntsAt w _ st0.2) := hvp
        obtain ⟨adp, cpp, rfl, hpl1, hpl2, hpcs, hpb⟩ := id hvp
        have HST : Hid (stK sh ps (PRE ++ (B.take j).map fun n => (a, n)) = st0) := hst0
        clear hvp hcr hpr hqr hst0
        by_cases hjn : j < B.length
        · obtain ⟨n, hn⟩ : ∃ n, B[j]? = some n := ⟨_, List.getElem?_eq_getElem hjn⟩
          obtain ⟨g', cp', eg, hg', hgc'⟩ := HG'.out j n hn
          simp only [Value.slice.injEq] at eg
          obtain ⟨rfl, _, rfl⟩ := eg
          have hgr := QR.out.cell hg' hgc'
          have hjl : (j : Int) < (B.length : Int) := by omega
          have hnk : n ∈ keys (inF sh a) := (mem_sortedI _ _).1 (by rw [HB.out]; exact List.mem_of_getElem? hn)
          obtain ⟨x, hx⟩ : ∃ x, mget n (inF sh a) = some x := by
            have := mem_keys.1 hnk
            exact Option.isSome_iff_exists.1 this
          have HXF : Hid (fget sh a n = x.vs) := by show _ = _; rw [fget_eq, fsGet_in, hx]; rfl
          have HFA : Hid (fsAt sh a n = .slice (some ⟨x.g, 0, none⟩) x.vs.length x.cap) := by
            show _ = _
            have : ((mget a sh.F).bind fun x => mget n x.2) = some x := by have := fsGet_in sh a n; rw [hx] at this; exact this
            unfold fsAt
            rw [this]; rfl
          have HOK : Hid (∀ W, Below w.heap.size w W → x.ok W) := fun W hW => inF_vs (held_below HH.out hW) hx
          have hxl : x.vs.length ≤ N ∧ 0 < x.vs.length := by
            have h1 := (HOK.out w (Below.refl _ _)).2.2.2.2
            refine ⟨?_, List.length_pos_iff.2 h1⟩
            have h2 := HR.out.fresh a n
            rw [HXF.out] at h2
            cases hf : findS a n d.secs with
            | none => rw [hf] at h2; exact absurd h2 h1
            | some s => rw [hf] at h2; rw [h2]; exact HD.out.bounds.2.2.2.2.2.2.1 s (findS_mem hf)
          have HNX : Hid (stK sh ps (PRE ++ (B.take (j + 1)).map fun n => (a, n)) = cstep (fget sh) st0 (a, n)) := by
            show _ = _
            rw [List.take_add_one, hn, Option.toList_some, List.map_append, ← List.append_assoc, List.map_singleton, stK_snoc, HST.out]
          clear hn hgc' hnk hx
          cases hps : st0.2 with
          | nil =>
            have HPN : Hid ((max (st0.2.headD 0) 0).toNat = 0) := by show _ = _; rw [hps]; rfl
            have HVQ : Hid (IntsAt w (.slice adp 0 cpp) (cstep (fget sh) st0 (a, n)).2) := by
              have := VP.out
              rw [hps] at this
              show IntsAt w _ st0.2.tail
              rw [hps]
              exact this
            have HHQ : Held wr sh := held_below HH.out CR.out.below
            have c7 := (CR.out.below.cell (p := ⟨p, 7, none⟩) hpl).trans C7.out
            have hlF := look_F HHQ a
            have hlFi := look_Fi HHQ a n
            rw [HFA.out] at hlFi
            have HCS : Hid (∀ a' n', st0.1 a' n' = (cstep (fget sh) st0 (a, n)).1 a' n') := fun a' n' => by
              show _ = (if a' = a ∧ n' = n then cvOf (st0.2.headD 0) (st0.1 a' n') (fget sh a' n') else st0.1 a' n')
              by_cases e : a' = a ∧ n' = n
              · rw [if_pos e, cvOf, pickN, HPN.out]
                simp
              · rw [if_neg e]
            have hz0 : Int.tmod 0 ((x.vs.length : Int) + 1) = 0 := Int.zero_tmod _
            simp only [List.length_nil]
            clear hps hpl1 hpl2 hpcs hpb VP HHQ
            go_wp2_with fail
            go_roundw
            case rel =>
              refine ⟨j + 1, M, by go_num, by omega, by rw [HNX.out]; exact HVQ.out, ?_, PR.out, QR.out⟩
              rw [HNX.out]
              exact CR.out.ext HCS.out
            case measure => simp [intOf]; omega
          | cons y r =>
            rw [hps] at hpcs hpb hpl1
            obtain ⟨pb, po, rfl, hpbl, hpc⟩ := hpcs (by simp)
            have hy0 := (CR.out.below.cell (p := ⟨pb, po, none⟩) hpbl).trans (by simpa using hpc 0 y rfl)
            obtain ⟨hy1, hy2⟩ := hpb y (.head _)
            obtain ⟨pn, hpn⟩ : ∃ pn : Nat, (max y 0).toNat = pn := ⟨_, rfl⟩
            have hmx1 : (if y < 0 then 0 else y) = (pn : Int) := by split <;> omega
            have hmx2 : (if 0 < y then y else 0) = (pn : Int) := by split <;> omega
            have hmx3 : max y 0 = (pn : Int) := by omega
            have HPN : Hid ((max (st0.2.headD 0) 0).toNat = pn) := by show _ = _; rw [hps]; exact hpn
            have HVQ : Hid (IntsAt w (.slice (if cpp = 1 then some ⟨pb, po, none⟩ else some ⟨pb, po + 1, none⟩) r.length (cpp - 1)) (cstep (fget sh) st0 (a, n)).2) := by
              have := VP.out
              rw [hps] at this
              show IntsAt w _ st0.2.tail
              rw [hps]
              exact this.tail
            simp only [List.length_cons]
            simp only [List.length_cons] at hpl1
            have hrl : (0 : Int) < (r.length : Int) + 1 := by omega
            clear hps hpl2 hpcs hpb VP hpc hpn
            go_wp2_with fail
            go_region
            obtain ⟨adq, hadq⟩ : ∃ adq, (if cpp = 1 then some (⟨pb, po, none⟩ : Addr) else some ⟨pb, po + 1, none⟩) = adq := ⟨_, rfl⟩
            rw [hadq] at HVQ
            rw [hadq]
            obtain ⟨wq, hwq⟩ : ∃ wq, wr.drew = wq := ⟨_, rfl⟩
            rw [hwq]
            have CQ : Hid (CrashR w q mb sh0.fb d.room wq M st0.1) := hwq ▸ CR.out.then (Below.refl _ wr).drew
            have PQ : Hid (Prot G w4 wq mb M) := hwq ▸ PR.out.then (Below.refl _ wr).drew
            have QQ : Hid (Prot G' w5 wq mb M) := hwq ▸ QR.out.then (Below.refl _ wr).drew
            have HHQ : Held wq sh := held_below HH.out CQ.out.below
            have c7 := (CQ.out.below.cell (p := ⟨p, 7, none⟩) hpl).trans C7.out
            have hlF := look_F HHQ a
            have hlFi := look_Fi HHQ a n
            rw [HFA.out] at hlFi
            have htm := tmod_nat pn x.vs.length
            obtain ⟨m, hm⟩ : ∃ m, pn % (x.vs.length + 1) = m := ⟨_, rfl⟩
            rw [hm] at htm
            have hml : m ≤ x.vs.length := by have := Nat.mod_lt pn (show 0 < x.vs.length + 1 by omega); omega
            have HCS : Hid (∀ a' n', (cstep (fget sh) st0 (a, n)).1 a' n' = if a' = a ∧ n' = n then (if m = 0 then st0.1 a' n' else x.vs[m - 1]?) else st0.1 a' n') := fun a' n' => by
              show (if a' = a ∧ n' = n then cvOf (st0.2.headD 0) (st0.1 a' n') (fget sh a' n') else st0.1 a' n') = _
              by_cases e : a' = a ∧ n' = n
              · rw [if_pos e, if_pos e, e.1, e.2, HXF.out, cvOf, pickN, HPN.out, hm]
              · rw [if_neg e, if_neg e]
            clear HHQ hm hwq hadq CR PR QR hy0 hgr hmx1 hmx2 hmx3
            by_cases h0 : m = 0
            · subst h0
              go_wp2_with fail
              go_roundw
              case rel =>
                refine ⟨j + 1, M, by go_num, by omega, by rw [HNX.out]; exact HVQ.out, ?_, PQ.out, QQ.out⟩
                rw [HNX.out]
                exact CQ.out.ext fun a' n' => by rw [HCS.out]; split <;> rfl
              case measure => simp [intOf]; omega
            · obtain ⟨m', rfl⟩ : ∃ m', m = m' + 1 := ⟨m - 1, by omega⟩
              have hk : m' < x.vs.length := by omega
              have hw1 : IntKind.i64.wrap (m' : Int) = (m' : Int) := by simp [IntKind.wrap, IntKind.bits, IntKind.signed]; omega
              have hw2 : (0 : Int) ≤ (m' : Int) := by omega
              have hw3 : (m' : Int) < (x.vs.length : Int) := by omega
              have hv64 : x.vs[m'].length = 64 := (HOK.out w (Below.refl _ _)).2.2.2.1 _ (List.getElem_mem hk)
              have HV : Hid (x.vs[m' + 1 - 1]? = some x.vs[m']) := by show _ = _; simp [hk]
              go_wp2_with fail
              have hq6 : wq.drew.cell? ⟨q, 6, none⟩ = some (.map (some mb)) := (disk_cells CQ.out.qb).2.2.2.2.2.2.1
              have hSS : SY q mb x wq.drew := ⟨hq6, HOK.out _ CQ.out.below.drew⟩
              refine region_at (S := SY q mb x) 12 rfl (by kernel_rfl) hSS (fun hHeld => ?_)
              refine take_at (i := 0) 74 rfl rfl (by kernel_rfl) (by kernel_rfl) (by kernel_rfl) (fun _ _ _ h => h) (by rfl) (fun w hSw => by (have hSw2 := SY.facts hSw; clear hSw; go_simp; first | done | exact rfl)) (by assumption) ?_
              simp only [List.setIfInBounds_toArray, List.set_cons_zero, List.set_cons_succ]
              refine take_at (i := 1) 75 rfl rfl (by kernel_rfl) (by kernel_rfl) (by kernel_rfl) (fun _ _ _ h => h) (by rfl) (fun w hSw => by (have hSw2 := SY.facts hSw; clear hSw; go_simp; first | done | exact rfl)) (by assumption) ?_
              simp only [List.setIfInBounds_toArray, List.set_cons_zero, List.set_cons_succ]
              refine take_at (i := 2) 76 rfl rfl (by kernel_rfl) (by kernel_rfl) (by kernel_rfl) (fun _ _ _ h => h) (by rfl) (fun w hSw => by (have hSw2 := SY.facts hSw; clear hSw; go_simp; first | done | exact rfl)) (by assumption) ?_
              simp only [List.setIfInBounds_toArray, List.set_cons_zero, List.set_cons_succ]
              refine take_at (i := 3) 77 rfl rfl (by kernel_rfl) (by kernel_rfl) (by kernel_rfl) (fun _ _ _ h => h) (by rfl) (fun w hSw => by (have hSw2 := SY.facts hSw; clear hSw; go_simp; first | done | exact rfl)) (by assumption) ?_
              simp only [List.setIfInBounds_toArray, List.set_cons_zero, List.set_cons_succ]
              refine take_at (i := 4) 78 rfl rfl (by kernel_rfl) (by kernel_rfl) (by kernel_rfl) (fun _ _ _ h => h) (by rfl) (fun w hSw => by (have hSw2 := SY.facts hSw; clear hSw; go_simp; first | done | exact rfl)) (by assumption) ?_
              simp only [List.setIfInBounds_toArray, List.set_cons_zero, List.set_cons_succ]
              refine take_at (i := 5) 79 rfl rfl (by kernel_rfl) (by kernel_rfl) (by kernel_rfl) (fun _ _ _ h => h) (by rfl) (fun w hSw => by (have hSw2 := SY.facts hSw; clear hSw; go_simp; first | done | exact rfl)) (by assumption) ?_
              simp only [List.setIfInBounds_toArray, List.set_cons_zero, List.set_cons_succ]
              refine take_at (i := 6) 80 rfl rfl (by kernel_rfl) (by kernel_rfl) (by kernel_rfl) (fun _ _ _ h => h) (by rfl) (fun w hSw => by (have hSw2 := SY.facts hSw; clear hSw; go_simp; first | done | exact rfl)) (by assumption) ?_
              simp only [List.setIfInBounds_toArray, List.set_cons_zero, List.set_cons_succ]
              refine take_at (i := 7) 81 rfl rfl (by kernel_rfl) (by kernel_rfl) (by kernel_rfl) (fun _ _ _ h => h) (by rfl) (fun w hSw => by (have hSw2 := SY.facts hSw; clear hSw; go_simp; first | done | exact rfl)) (by assumption) ?_
              simp only [List.setIfInBounds_toArray, List.set_cons_zero, List.set_cons_succ]
              refine take_at (i := 8) 82 rfl rfl (by kernel_rfl) (by kernel_rfl) (by kernel_rfl) (fun _ _ _ h => h) (by rfl) (fun w hSw => by (have hSw2 := SY.facts hSw; clear hSw; go_simp; first | done | exact rfl)) (by assumption) ?_
              simp only [List.setIfInBounds_toArray, List.set_cons_zero, List.set_cons_succ]
              refine take_at (i := 9) 83 rfl rfl (by kernel_rfl) (by kernel_rfl) (by kernel_rfl) (fun _ _ _ h => h) (by rfl) (fun w hSw => by (have hSw2 := SY.facts hSw; clear hSw; go_simp; first | done | exact rfl)) (by assumption) ?_
              simp only [List.setIfInBounds_toArray, List.set_cons_zero, List.set_cons_succ]
              refine take_at (i := 10) (v := verV x.vs[m']) 84 rfl rfl (by kernel_rfl) (by kernel_rfl) (by kernel_rfl) (fun _ _ _ h => h) (by rfl) (fun W hSw => ?_) hHeld ?_
              · refine (exec_load_ver _ (.tmp 83) _ _ _ _ _ W).trans ?_
                show Result.andThen (loadV Try.prog (.pointer (some ⟨x.g, _, none⟩)) W) _ = _
                rw [FS.ok.load hSw.2 hk]
                rfl
              simp only [List.setIfInBounds_toArray, List.set_cons_zero, List.set_cons_succ]
              have CD : CrashR w q mb sh0.fb d.room wq.drew M st0.1 := CQ.out.then (Below.refl _ wq).drew
              refine one_call (i := 11) (w0 := wq.drew) 85 39 #[.map (some mb), .int .u64 a, .int .i64 n, verV x.vs[m']] (by kernel_rfl) rfl rfl (by rfl) (by kernel_rfl) ?_
              refine (putL_any mb M a n x.vs[m'] hv64 wq.drew CD.two).mono ?_
              rintro e w7 ⟨rfl, hput⟩
              obtain ⟨M', hC7, hp1, hp2, hp3⟩ := CD.put (g := (cstep (fget sh) st0 (a, n)).1) hv64 hput (fun a' n' => by
                rw [HCS.out]
                by_cases e : a' = a ∧ n' = n
                · rw [if_pos e, if_pos e, if_neg (by omega)]; exact HV.out
                · rw [if_neg e, if_neg e])
              have hS7 : SY q mb x w7 := ⟨(disk_cells hC7.qb).2.2.2.2.2.2.1, HOK.out _ hC7.below⟩
              refine ⟨_, rfl, hS7, fun _ => ?_⟩
              refine wpAnyH_done (by kernel_rfl) ?_ _
              have C7' : Hid (CrashR w q mb sh0.fb d.room w7 M' (cstep (fget sh) st0 (a, n)).1) := hC7
              have P7 : Hid (Prot G w4 w7 mb M') := (PQ.out.then (Below.refl _ wq).drew).put hp1 hp2 hp3
              have Q7 : Hid (Prot G' w5 w7 mb M') := (QQ.out.then (Below.refl _ wq).drew).put hp1 hp2 hp3
              clear hHeld hput hC7 hp1 hp2 hp3 hS7 CD hSS hq6
              go_wp2_with fail
              go_roundw
              case rel => exact ⟨j + 1, M', by go_num, by omega, by rw [HNX.out]; exact HVQ.out, by rw [HNX.out]; exact C7'.out, P7.out, Q7.out⟩
              case measure => simp [intOf]; omega
        · have hjj : j = B.length := by omega
          subst hjj
          have HNE : Hid (st0 = stK sh ps ((A.take (i + 1)).flatMap (innerK sh))) := by
            show _ = _
            rw [HPRE.out, ← HST.out, List.take_length, innerK, HB.out]
          go_wp2_with fail
          go_roundw
          case rel => exact ⟨i + 1, M, by go_num, by omega, by rw [← HNE.out]; exact VP.out, by rw [← HNE.out]; exact CR.out, PR.out⟩
          case measure => simp [intOf]; omega
    · have hii : i = A.length := by omega
      subst hii
      have HF : Hid (∀ a n, (stK sh ps ((A.take A.length).flatMap (innerK sh))).1 a n = (findS a n (crashS ps d.secs)).bind (·.last)) := fun a n => by
        rw [List.take_length, find_crash HR.out.sorted]
        have e1 : A.flatMap (innerK sh) = freshK d.secs := by
          rw [← HA.out]
          exact loop_eq HH.out HR.out (fun a => strict_sortedI (inF_nodup HH.out a)) (fun a n => mem_sortedI _ n)
        rw [e1, stK, fold_get (fget sh) d.secs HR.out.sorted (fun s hs => by rw [HR.out.fresh, findS_self HR.out.sorted hs]; rfl) (lget sh) ps (fun s hs => by rw [HR.out.last, findS_self HR.out.sorted hs]; rfl) a n]
        by_cases hf : (findS a n d.secs).isSome = true
        · rw [if_pos hf]
        · rw [if_neg hf, HR.out.last]
          cases hf2 : findS a n d.secs with
          | some s => rw [hf2] at hf; simp at hf
          | none =>
            have := find_crash (ps := ps) HR.out.sorted a n
            have hno : findS a n (crashS ps d.secs) = none := findS_none_of fun t ht hh => by
              obtain ⟨s, hs, e1, e2, _⟩ := crashS_mem ht
              have := findS_self HR.out.sorted hs
              rw [← e1, ← e2, hh.1, hh.2, hf2] at this
              cases this
            rw [← this, hno]
      have HLS : Hid (∀ s ∈ crashS ps d.secs, s.last ≠ none ∧ s.fresh = []) := fun t ht => by
        refine ⟨?_, crashS_fresh ht⟩
        obtain ⟨s, hs, _, _, ⟨h1, h2⟩ | ⟨_, v, _, _, _, h5⟩⟩ := crashS_mem ht
        · rw [h2]
          exact (HR.out.there s hs).resolve_right fun h => h h1
        · rw [h5]; simp
      have HSM : Hid (sumML M = (crashS ps d.secs).length) := sum_crash CR.out.two.1.nodup (fun p hp => (CR.out.two.2.1 p hp).nodup) (crashS_sorted HR.out.sorted) (fun s hs => (HLS.out s hs).1) (fun a n => (CR.out.get a n).trans (HF.out a n))
      have hsl : sumML M ≤ N := by
        have h1 := crashS_len ps d.secs
        have h2 := HD.out.bounds.2.2.2.2.1
        rw [HSM.out]; omega
      obtain ⟨k0, k1, k2, k3, k4, k5, k6, k7, kz⟩ := disk_cells CR.out.qb
      have HRG : Hid (∃ ob, (Instr.range 75 (.map (some mb))).run Try.prog wr = .ok (.pointer (some ⟨wr.heap.size, 0, none⟩)) (wr.alloc ob) ∧ Ranges .u64 inV (wr.alloc ob) (some mb) wr.heap.size M []) := CR.out.two.1.range Try.underlying75
      clear k0 k1 k2 k3 k4 k5 k7 kz
      go_wp2_with (at_range; refine wpList_range_at HRG.out rfl _ rfl rfl ?_)
      intro ob hrg
      have hqw : (wr.alloc ob).heap[q]? = some (dC d.room ((sumML [] : Nat) : Int) 0 false false 0 mb sh0.fb) := (alloc_old wr ob (Array.getElem?_eq_some_iff.1 CR.out.qb).1).trans CR.out.qb
      have hqlt := (Array.getElem?_eq_some_iff.1 CR.out.qb).1
      have Z0 : Hid (Ranges .u64 inV (wr.alloc ob) (some mb) wr.heap.size M [] ∧ (wr.alloc ob).heap[q]? = some (dC d.room ((sumML [] : Nat) : Int) 0 false false 0 mb sh0.fb) ∧ Below w.heap.size w (wr.alloc ob) ∧ wr.heap.size < (wr.alloc ob).heap.size ∧ ∀ k, k < wr.heap.size → k ≠ q → (wr.alloc ob).heap[k]? = wr.heap[k]?) := ⟨hrg, hqw, CR.out.below.alloc CR.out.below.size ob, by simp, fun k hk _ => alloc_old wr ob hk⟩
      clear hrg hqw k6
      go_wp2_with fail
      obtain ⟨wz, rfl⟩ : ∃ wz, wz = wr := ⟨_, rfl⟩
      go_loopw [] (fun wr => ∃ done, Ranges .u64 inV wr (some mb) wz.heap.size M done ∧ wr.heap[q]? = some (dC d.room ((sumML done : Nat) : Int) 0 false false 0 mb sh0.fb) ∧ Below w.heap.size w wr ∧ wz.heap.size < wr.heap.size ∧ ∀ k, k < wz.heap.size → k ≠ q → wr.heap[k]? = wz.heap[k]?) (fun wr => M.length - seenAt wr wz.heap.size)
      case atStart => exact ⟨[], Z0.out⟩
      case round =>
        clear Z0
        obtain ⟨done, hrg, hq1, hbz, hsz, hfz⟩ := hrel
        have RG : Hid (Ranges .u64 inV wr (some mb) wz.heap.size M done) := hrg
        have HQ1 : Hid (wr.heap[q]? = some (dC d.room ((sumML done : Nat) : Int) 0 false false 0 mb sh0.fb)) := hq1
        have HBZ : Hid (Below w.heap.size w wr ∧ ∀ k, k < wz.heap.size → k ≠ q → wr.heap[k]? = wz.heap[k]?) := ⟨hbz, hfz⟩
        have hsn := hrg.seen
        have hqge := CR.out.qge.1
        clear hrg hq1 hbz hfz
        go_wp2_with (at_next; refine wpList_next_at RG.out rfl _ rfl rfl ?_ ?_)
        · intro hall
          have hse : sumML done = (crashS ps d.secs).length := (sum_all CR.out.two.1.nodup hsn.2.2.1 (fun p hp => (CR.out.two.2.1 p hp).nodup) hsn.2.2.2 hall).trans HSM.out
          have HFD : Hid (∃ fq, DiskAt N wr q (crashD d ps) fq ∧ ∀ b ∈ fq, w.heap.size ≤ b) := found_disk CR.out (crashS_sorted HR.out.sorted) HLS.out HF.out (hse ▸ HQ1.out) HBZ.out.2 r1 r2 (by
            have h1 := crashS_len ps d.secs
            have h2 := HD.out.bounds.2.2.2.2.1
            omega) (by
            have h1 := crashS_len ps d.secs
            have h2 := HD.out.bounds.2.2.2.2.2.1
            omega)
          clear hall hse hsn
          go_wp2_with fail
          go_ret
          obtain ⟨fq, h1, h2⟩ := HFD.out
          exact ⟨q, fq, rfl, h1, HBZ.out.1, h2⟩
        · intro k xb xm w' hm hk hr2 ho hen
          have hqr : q ≠ wz.heap.size := by omega
          have hq2 : w'.drew.heap[q]? = some (dC d.room ((sumML done : Nat) : Int) 0 false false 0 mb sh0.fb) := (ho.block q hqr).trans HQ1.out
          have hmz := CR.out.two.2.1 _ hm
          have hxm : MapAt .i64 verV w'.drew xb xm := hmz.same ((ho.block xb (by have := hmz.lt; simp only at this; omega)).trans (HBZ.out.2 xb hmz.lt (CR.out.new _ hm).2.1))
          have hsn2 := hr2.seen
          have hsum : sumML done + xm.length ≤ N := by
            have := sum_done (M := M) hsn2.2.2.1 (fun p hp => (CR.out.two.2.1 p hp).nodup) hsn2.2.2.2
            rw [sum_snoc] at this
            omega
          have hlen := hxm.len Try.underlying88 3
          obtain ⟨k0, k1, k2, k3, k4, k5, k6, k7, kz⟩ := disk_cells hq2
          have hen' : (Instr.entry (.pointer (some ⟨wz.heap.size, 0, none⟩))).run Try.prog w' = .ok (.tuple #[.int .u64 k, .map (some xb)]) w' := hen
          try rw [show inV (xb, xm) = .map (some xb) from rfl]
          have HQ2 : Hid (w'.drew.heap[q]? = some (dC d.room ((sumML done : Nat) : Int) 0 false false 0 mb sh0.fb)) := hq2
          have HR2 : Hid (Ranges .u64 inV w' (some mb) wz.heap.size M (done ++ [(k, xb, xm)])) := hr2
          have HO : Hid (OneD wz.heap.size wr w') := ho
          have hmq : mb ≠ q := CR.out.ap.1.symm
          obtain ⟨sd, hsd⟩ : ∃ sd, sumML done = sd := ⟨_, rfl⟩
          rw [hsd] at k1 hsum HQ2
          have HSD : Hid (sumML done = sd) := hsd
          clear hen hmz hxm hr2 ho hm hk hq2 k0 k2 k3 k4 k5 k6 k7 hsd
          go_wp2_with fail
          go_region
          all_goals
            go_wp2_with fail
            go_roundw
            case rel =>
              refine ⟨done ++ [(k, xb, xm)], ?_, ?_, ?_, ?_, ?_⟩
              · exact (show Ranges .u64 inV w'.drew (some mb) wz.heap.size M (done ++ [(k, xb, xm)]) from HR2.out).same (Below.heap_setCell _ _ _ _ (by show wz.heap.size ≠ q; omega)) (fun b hb => by cases hb; exact Below.heap_setCell _ _ _ _ hmq)
              · rw [sum_snoc, HSD.out]
                have := set_cell HQ2.out 1 (.int .i64 ((sd : Int) + (xm.length : Int)))
                exact this
              · exact (HBZ.out.1.trans ⟨HO.out.os, HO.out.tape, HO.out.output, Nat.le_of_eq HO.out.size.symm, fun b hb => HO.out.block b (by have := CR.out.below.size; omega)⟩).drew.setCell hqge _
              · have := HO.out.size
                simp [World.setCell]
                omega
              · intro b hb hne
                exact (Below.heap_setCell w' ⟨q, 1, none⟩ _ b hne).trans ((HO.out.block b (by omega)).trans (HBZ.out.2 b hb hne))
            case measure =>
              have e1 : ∀ u, seenAt (w'.setCell ⟨q, 1, none⟩ u).drew wz.heap.size = seenAt w' wz.heap.size := fun u => by
                unfold seenAt
                rw [show (w'.setCell ⟨q, 1, none⟩ u).drew.heap[wz.heap.size]? = w'.heap[wz.heap.size]? from Below.heap_setCell w' ⟨q, 1, none⟩ u _ (show wz.heap.size ≠ q by omega)]
              rw [e1, hsn2.1, hsn.1]
              have := hsn2.2.1
              rw [List.length_append, List.length_singleton] at this ⊢
              omega
end Go.Proofs.Ytpmmpdkeahmdiaa
