/- (*builder).state. -/
import Derived.Test.YtllmdfkiogmofaaGreatDoorFNum2
import Derived.Test.YtllmdfkiogmofaaGreatDoorFMath2
namespace Go.Proofs.YtllmdfkiogmofaaGreatDoor
open Go.RowKit Nums Fm
set_option maxRecDepth 100000

/-- What state says. -/
structure StSays (A : Nat → Prop) (E g g1 g2 : Nat) (vs : Value) (b : List St) (m2 : List (LK × Nat)) (f : Nat) (S : List En) (w w' : World) (n : Nat) : Prop where
  ex : ∃ A' vs' m1' m2' D', BAt A' E w' g g1 g2 vs' (stF f b S).1 m1' m2' D' ∧ m2'.length ≤ m2.length + bulk S ∧ Upd (fpB g g1 g2 vs) w w' ∧ (vs'.ownBlock = vs.ownBlock ∨ ∃ j, vs'.ownBlock = some j ∧ w.heap.size ≤ j) ∧ (∀ k, A' k → A k ∨ w.heap.size ≤ k) ∧ ∀ k, A' k → k < w'.heap.size
  num : (stF f b S).2 = n
/-- Entries as they can be. -/
structure EnOk (l : List En) : Prop where
  wt : ∀ e ∈ l, 1 ≤ e.2 ∧ e.2 ≤ 1048576
  rn : ∀ e ∈ l, ∀ c ∈ e.1, Fits32 c
  ln : ∀ e ∈ l, e.1.length ≤ 24
theorem EnOk.sub {l l' : List En} (h : EnOk l) (hs : ∀ e ∈ l', e ∈ l) : EnOk l' := ⟨fun e he => h.wt e (hs e he), fun e he => h.rn e (hs e he), fun e he => h.ln e (hs e he)⟩
/-- The loop over groups. -/
structure SLoop (A : Nat → Prop) (E g g1 g2 : Nat) (vs : Value) (b : List St) (m2 : List (LK × Nat)) (f k : Nat) (base : Int) (fin : Bool) (out : Int) (T0 : List En) (bs : Nat) (w1 wr : World) (s1 : Value) (T : List En) (acc : List Arc) (A' : Nat → Prop) (vs' : Value) (b' : List St) (m1' : List (SK × Nat)) (m2' : List (LK × Nat)) (D' : List (List Arc)) (va : Value) : Prop where
  row : ERow E wr s1 T
  at' : BAt A' E wr g g1 g2 vs' b' m1' m2' D'
  box : wr.heap[bs]? = some (.cells #[.bool fin, .int .i64 out, va] 61)
  arcs : AOwn E wr va acc
  apart : ∀ j, va.ownBlock = some j → w1.heap.size ≤ j ∧ ¬ A' j
  eq1 : (arF (stF f) base b' (grp (cut k T))).1 = (arF (stF f) base b (grp (cut k T0))).1
  eq2 : acc ++ (arF (stF f) base b' (grp (cut k T))).2 = (arF (stF f) base b (grp (cut k T0))).2
  n1 : m2'.length + acc.length + bulk (cut k T) ≤ m2.length + bulk (cut k T0)
  n2 : b'.length + acc.length + bulk (cut k T) ≤ b.length + bulk (cut k T0)
  n3 : T = T0 ∨ 0 < acc.length
  n4 : acc.length + T.length ≤ T0.length
  ne : ∀ e ∈ cut k T, e.1 ≠ []
  ok : ∀ p ∈ grp (cut k T), Ok f p.2
  oka : ∀ a ∈ acc, OkArc a
  sub : ∀ e ∈ T, e ∈ T0
  upd : Upd (fun j => fpB g g1 g2 vs j ∨ j = bs) w1 wr
  own : vs'.ownBlock = vs.ownBlock ∨ ∃ j, vs'.ownBlock = some j ∧ w1.heap.size ≤ j
  as1 : ∀ j, A' j → A j ∨ w1.heap.size ≤ j
  as2 : ∀ j, A' j → j < wr.heap.size
/-- What region 4 looks at. -/
def S4E (ge oe : Nat) (n : Int) (w : World) : Prop := w.cell? ⟨ge, oe + 1, none⟩ = some (.int .i64 n)
theorem S4E.facts {ge oe : Nat} {n : Int} {w : World} (h : S4E ge oe n w) : w.cell? ⟨ge, oe + 1, none⟩ = some (.int .i64 n) := h
/-- What region 8 looks at. -/
structure S8 (bs : Nat) (va : Value) (ge oe gr o n c : Nat) (k : Nat) (ch : Int) (w : World) : Prop where
  b : w.cell? ⟨bs, 2, none⟩ = some va
  e : w.cell? ⟨ge, oe, none⟩ = some (.slice (some ⟨gr, o, none⟩) n c)
  r : w.cell? ⟨gr, o + k, none⟩ = some (.int .i32 ch)
theorem S8.facts {bs : Nat} {va : Value} {ge oe gr o n c : Nat} {k : Nat} {ch : Int} {w : World} (h : S8 bs va ge oe gr o n c k ch w) : w.cell? ⟨bs, 2, none⟩ = some va ∧ w.cell? ⟨ge, oe, none⟩ = some (.slice (some ⟨gr, o, none⟩) n c) ∧ w.cell? ⟨gr, o + k, none⟩ = some (.int .i32 ch) := ⟨h.b, h.e, h.r⟩
theorem RunesAt.low {E : Nat} {w : World} {g o n cap : Nat} {xs : List Int} (h : RunesAt E w (.slice (some ⟨g, o, none⟩) n cap) xs) (h0 : 0 < xs.length) : g < E := by
  obtain ⟨ad', cap', e, hc⟩ := h
  simp only [Value.slice.injEq] at e
  obtain ⟨rfl, _, rfl⟩ := e
  obtain ⟨g', off, e, hg, _⟩ := hc h0
  simp only [Option.some.injEq, Addr.mk.injEq] at e
  omega
/-- A row's front and its rest. -/
theorem ERow.take {E : Nat} {w : World} {ge oe n cap m : Nat} {l : List En} (h : ERow E w (.slice (some ⟨ge, oe, none⟩) n cap) l) (hm : m ≤ n) (hm0 : 0 < m) : ERow E w (.slice (some ⟨ge, oe, none⟩) m cap) (l.take m) := by
  have hn : n = l.length := by obtain ⟨_, _, e, _⟩ := h; simp only [Value.slice.injEq] at e; exact e.2.1
  obtain ⟨g', o', e', hg, hc, hx⟩ := h.at (by omega)
  simp only [Option.some.injEq, Addr.mk.injEq] at e'
  obtain ⟨rfl, rfl, _⟩ := e'
  refine ⟨_, cap, by rw [List.length_take, Nat.min_eq_left (by omega)], by rw [List.length_take]; omega, fun _ => ⟨ge, oe, rfl, hg, fun i e hi => hx i e ?_⟩⟩
  rw [List.getElem?_take] at hi
  split at hi
  · exact hi
  · cases hi
theorem ERow.drop {E : Nat} {w : World} {ge oe n cap m : Nat} {l : List En} {ad : Option Addr} (h : ERow E w (.slice (some ⟨ge, oe, none⟩) n cap) l) (hm : m ≤ n) (hm0 : 0 < n) (had : m = n ∨ ad = some ⟨ge, oe + m * 2, none⟩) : ERow E w (.slice ad (n - m) (cap - m)) (l.drop m) := by
  have hn : n = l.length := by obtain ⟨_, _, e, _⟩ := h; simp only [Value.slice.injEq] at e; exact e.2.1
  obtain ⟨g', o', e', hg, hc, hx⟩ := h.at hm0
  simp only [Option.some.injEq, Addr.mk.injEq] at e'
  obtain ⟨rfl, rfl, _⟩ := e'
  refine ⟨ad, cap - m, by rw [List.length_drop, hn], by rw [List.length_drop]; omega, fun h0 => ?_⟩
  rw [List.length_drop] at h0
  refine ⟨ge, oe + m * 2, had.resolve_left (by omega), hg, fun i e hi => ?_⟩
  rw [List.getElem?_drop] at hi
  have := hx (m + i) e hi
  rwa [Nat.add_mul, ← Nat.add_assoc] at this
end Go.Proofs.YtllmdfkiogmofaaGreatDoor
