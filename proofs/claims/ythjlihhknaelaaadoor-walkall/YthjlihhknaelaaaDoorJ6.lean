/- Texts that were written apart, joined. -/
import Derived.Test.YthjlihhknaelaaaDoorJ5
import Derived.Test.YthjlihhknaelaaaDoorJ4
import Derived.Test.YthjlihhknaelaaaDoorJ3
import Derived.Test.YthjlihhknaelaaaDoorJ2
/- Cut: what the seat's translation lacks is left out. -/
/- (*builder).state. -/
namespace Go.Proofs.YthjlihhknaelaaaDoor
open Go.RowKit Nums Fm
set_option maxRecDepth 100000

/-- Entries as they can be. -/
structure EnOk (l : List En) : Prop where
  wt : ∀ e ∈ l, 1 ≤ e.2 ∧ e.2 ≤ 1048576
  rn : ∀ e ∈ l, ∀ c ∈ e.1, Fits32 c
  ln : ∀ e ∈ l, e.1.length ≤ 24
theorem EnOk.sub {l l' : List En} (h : EnOk l) (hs : ∀ e ∈ l', e ∈ l) : EnOk l' := ⟨fun e he => h.wt e (hs e he), fun e he => h.rn e (hs e he), fun e he => h.ln e (hs e he)⟩
/-- What region 4 looks at. -/
def S4E (ge oe : Nat) (n : Int) (w : World) : Prop := w.cell? ⟨ge, oe + 1, none⟩ = some (.int .i64 n)
theorem S4E.facts {ge oe : Nat} {n : Int} {w : World} (h : S4E ge oe n w) : w.cell? ⟨ge, oe + 1, none⟩ = some (.int .i64 n) := h
/-- What region 8 looks at. -/
structure S8 (bs : Nat) (va : Value) (ge oe gr o n c : Nat) (k : Nat) (ch : Int) (w : World) : Prop where
  b : w.cell? ⟨bs, 2, none⟩ = some va
  e : w.cell? ⟨ge, oe, none⟩ = some (.slice (some ⟨gr, o, none⟩) n c)
  r : w.cell? ⟨gr, o + k, none⟩ = some (.int .i32 ch)
theorem S8.facts {bs : Nat} {va : Value} {ge oe gr o n c : Nat} {k : Nat} {ch : Int} {w : World} (h : S8 bs va ge oe gr o n c k ch w) : w.cell? ⟨bs, 2, none⟩ = some va ∧ w.cell? ⟨ge, oe, none⟩ = some (.slice (some ⟨gr, o, none⟩) n c) ∧ w.cell? ⟨gr, o + k, none⟩ = some (.int .i32 ch) := ⟨h.b, h.e, h.r⟩
theorem RunesAt.low {E : Nat} {w : World} {g o n cap : Nat} {xs : List Int} (h : RunesAt E w (.slice (some ⟨g, o, none⟩) n cap) xs) (h0 : 0 < xs.length) : g < E := by
  obtain ⟨ad', cap', e, hc⟩ := h
  simp only [Value.slice.injEq] at e
  obtain ⟨rfl, _, rfl⟩ := e
  obtain ⟨g', off, e, hg, _⟩ := hc h0
  simp only [Option.some.injEq, Addr.mk.injEq] at e
  omega
/-- A row's front and its rest. -/
theorem ERow.take {E : Nat} {w : World} {ge oe n cap m : Nat} {l : List En} (h : ERow E w (.slice (some ⟨ge, oe, none⟩) n cap) l) (hm : m ≤ n) (hm0 : 0 < m) : ERow E w (.slice (some ⟨ge, oe, none⟩) m cap) (l.take m) := by
  have hn : n = l.length := by obtain ⟨_, _, e, _⟩ := h; simp only [Value.slice.injEq] at e; exact e.2.1
  obtain ⟨g', o', e', hg, hc, hx⟩ := h.at (by omega)
  simp only [Option.some.injEq, Addr.mk.injEq] at e'
  obtain ⟨rfl, rfl, _⟩ := e'
  refine ⟨_, cap, by rw [List.length_take, Nat.min_eq_left (by omega)], by rw [List.length_take]; omega, fun _ => ⟨ge, oe, rfl, hg, fun i e hi => hx i e ?_⟩⟩
  rw [List.getElem?_take] at hi
  split at hi
  · exact hi
  · cases hi
theorem ERow.drop {E : Nat} {w : World} {ge oe n cap m : Nat} {l : List En} {ad : Option Addr} (h : ERow E w (.slice (some ⟨ge, oe, none⟩) n cap) l) (hm : m ≤ n) (hm0 : 0 < n) (had : m = n ∨ ad = some ⟨ge, oe + m * 2, none⟩) : ERow E w (.slice ad (n - m) (cap - m)) (l.drop m) := by
  have hn : n = l.length := by obtain ⟨_, _, e, _⟩ := h; simp only [Value.slice.injEq] at e; exact e.2.1
  obtain ⟨g', o', e', hg, hc, hx⟩ := h.at hm0
  simp only [Option.some.injEq, Addr.mk.injEq] at e'
  obtain ⟨rfl, rfl, _⟩ := e'
  refine ⟨ad, cap - m, by rw [List.length_drop, hn], by rw [List.length_drop]; omega, fun h0 => ?_⟩
  rw [List.length_drop] at h0
  refine ⟨ge, oe + m * 2, had.resolve_left (by omega), hg, fun i e hi => ?_⟩
  rw [List.getElem?_drop] at hi
  have := hx (m + i) e hi
  rwa [Nat.add_mul, ← Nat.add_assoc] at this
end Go.Proofs.YthjlihhknaelaaaDoor

/- Cut: what the seat's translation lacks is left out. -/
/- (*builder).state, walked. -/
namespace Go.Proofs.YthjlihhknaelaaaDoor
open Go.RowKit Nums Fm
set_option maxRecDepth 100000

/-- What is fixed while groups are gone through. -/
structure SFix (A : Nat → Prop) (E g g1 g2 : Nat) (vs : Value) (b : List St) (m2 : List (LK × Nat)) (f k : Nat) (base : Int) (fin : Bool) (out : Int) (l T0 : List En) (bs : Nat) (w w1 : World) : Prop where
  eq : stF (f + 1) b (cut k l) = numSt (arF (stF f) base b (grp (cut k T0))).1 ⟨fin, out, (arF (stF f) base b (grp (cut k T0))).2⟩
  n0 : bulk (cut k T0) ≤ bulk (cut k l)
  n2 : fin = true → bulk (cut k T0) + 1 ≤ bulk (cut k l)
  t0 : fin = false → T0 ≠ []
  len : T0.length ≤ 4096
  k100 : k + f + 1 ≤ 100
  ok : EnOk T0
  s1 : m2.length + bulk (cut k l) < 549755813888
  s2 : b.length + bulk (cut k l) < 549755813888
  fbase : 1 ≤ base ∧ base ≤ 1048576
  fout : Fits64 out
  fbs : bs = w.heap.size
  fw1 : Below w.heap.size w w1
  w1s : w1.heap.size = bs + 1
  al : ∀ j, A j → j < w.heap.size
  fp : ∀ j, fpB g g1 g2 vs j → j < w.heap.size
  fE : E ≤ w.heap.size
theorem bulk_drop1 {k : Nat} {l : List En} (h : 0 < l.length) : bulk (cut k (l.drop 1)) + 1 ≤ bulk (cut k l) := by
  cases l with
  | nil => simp at h
  | cons e r =>
    rw [cut_cons, bulk_cons]
    simp only [List.drop_succ_cons, List.drop_zero]
    omega

end Go.Proofs.YthjlihhknaelaaaDoor

/- Cut: what the seat's translation lacks is left out. -/
/- fst.entries: words as runes. -/
namespace Go.Proofs.YthjlihhknaelaaaDoor
open Go.RowKit Nums Fm
set_option maxRecDepth 100000

def entOf (x : Pr) : En := ((rs x.1.data.toList).getD [], x.2)
def ents (l : List Pr) : List En := l.map entOf
theorem Made.runes {B : Nat} {w : World} {v : Value} {xs : List Int} (h : Made B w v xs) : RunesAt w.heap.size w v xs := by
  obtain ⟨hl, ⟨e, h0⟩ | ⟨g, cap, cur, rfl, h1, hh, h3, h4, h5, h6⟩⟩ := h
  · exact ⟨none, 0, by rw [e, h0], fun h => by omega⟩
  · refine ⟨_, cap, rfl, fun _ => ⟨g, 0, rfl, (Array.getElem?_eq_some_iff.1 hh).1, fun i x hi => ?_⟩⟩
    have e : (xs.map (Value.int .i32))[i]? = some (.int .i32 x) := by rw [List.getElem?_map, hi]; rfl
    rw [← h6, List.getElem?_take] at e
    split at e
    · simp only [World.cell?, hh, Nat.zero_add]
      simpa using e
    · cases e
/-- Runes lie in another block than structs of a type T. -/
theorem Made.kept {B : Nat} {w w' : World} {v u : Value} {xs : List Int} {T : TypeId} {k B' : Nat} {xss : List (List Value)} (h : Made B w v xs) (ho : GOwn T k B' w u xss) (hT : T ≠ 21) (hg : w.grownBy w' u.ownBlock) : Made B w' v xs := by
  refine World.ownsRow.kept h hg ?_
  by_cases e : v.ownBlock = none
  · exact .inl e
  · refine .inr fun e2 => ?_
    obtain ⟨g, hgv⟩ := Option.ne_none_iff_exists'.1 e
    obtain ⟨_, cur, h1⟩ := ho.block (e2.symm.trans hgv)
    obtain ⟨_, ⟨ev, _⟩ | ⟨g', cap, cur', rfl, _, h2, _⟩⟩ := h
    · rw [ev] at hgv; cases hgv
    · simp only [Value.ownBlock, Option.some.injEq] at hgv
      subst hgv
      rw [h1] at h2
      simp only [Option.some.injEq, Obj.cells.injEq] at h2
      exact hT h2.2.1
theorem Made.shape {B : Nat} {w : World} {v : Value} {xs : List Int} (h : Made B w v xs) : ∃ ad cap, v = .slice ad xs.length cap := by
  obtain ⟨hl, ⟨e, h0⟩ | ⟨g, cap, cur, rfl, _⟩⟩ := h
  · exact ⟨none, 0, by rw [e, h0]⟩
  · exact ⟨_, cap, rfl⟩
theorem ents_snoc {l : List Pr} {k : Nat} {x : Pr} (h : l[k]? = some x) : ents (l.take (k + 1)) = ents (l.take k) ++ [entOf x] := by
  rw [List.take_add_one, h]
  simp [ents]
theorem ents_len (l : List Pr) : (ents l).length = l.length := by simp [ents]
/-- Words as they can be. -/
def Wd (l : List Pr) : Prop := ∀ x ∈ l, ∃ xs, rs x.1.data.toList = some xs ∧ xs.length ≤ 24 ∧ x.1.size ≤ 96

end Go.Proofs.YthjlihhknaelaaaDoor

/- fst.Build. -/
namespace Go.Proofs.YthjlihhknaelaaaDoor
open Go.RowKit Nums Fm
set_option maxRecDepth 100000

/-- What Build says is wrong. -/
def buildE (l : List Pr) : Int := if 4096 < l.length then 70 else faultF none l
/-- The machine. -/
def machOf (l : List Pr) : Int × List St := if buildE l = 0 ∧ l ≠ [] then (least (ents l), (stF 25 [] (ents l)).1) else (0, [])
/-- States in memory. -/
def StRow (B : Nat) (w : World) (vs : Value) (b : List St) : Prop := ∃ xss, GOwn 51 3 B w vs xss ∧ xss.length = b.length ∧ ∀ (i : Nat) (s : St), b[i]? = some s → ∃ va, xss[i]? = some [.bool s.final, .int .i64 s.out, va] ∧ AOwn B w va s.arcs
theorem StRow.nil (B : Nat) (w : World) : StRow B w (.slice none 0 0) [] := ⟨[], GOwn.nil _ _ _ _, rfl, fun i s hi => by simp at hi⟩
theorem StRow.below {B : Nat} {w w' : World} {vs : Value} {b : List St} (h : StRow B w vs b) (hb : Below w.heap.size w w') : StRow B w' vs b := by
  obtain ⟨xss, h1, h2, h3⟩ := h
  refine ⟨xss, h1.below hb, h2, fun i s hi => ?_⟩
  obtain ⟨va, h4, h5⟩ := h3 i s hi
  exact ⟨va, h4, GOwn.below h5 hb⟩
theorem StRow.mono {B B' : Nat} {w : World} {vs : Value} {b : List St} (h : StRow B w vs b) (hb : B' ≤ B) : StRow B' w vs b := by
  obtain ⟨xss, h1, h2, h3⟩ := h
  refine ⟨xss, h1.mono hb, h2, fun i s hi => ?_⟩
  obtain ⟨va, h4, h5⟩ := h3 i s hi
  exact ⟨va, h4, GOwn.mono h5 hb⟩
theorem fault_all : ∀ (l : List Pr) (p : Option Pr), faultF p l = 0 → ∀ x ∈ l, wordB x.1.data.toList = true ∧ 1 ≤ x.2 ∧ x.2 ≤ 1048576
  | [], _, _, x, hx => by cases hx
  | y :: r, p, h, x, hx => by
    rw [faultF] at h
    by_cases h0 : oneF p y = 0
    · rw [if_pos h0] at h
      rcases List.mem_cons.1 hx with rfl | hx
      · unfold oneF at h0
        split at h0
        · cases h0
        · split at h0
          · cases h0
          · rename_i h1 h2
            exact ⟨by simpa using h1, by omega, by omega⟩
      · exact fault_all r _ h x hx
    · rw [if_neg h0] at h; exact absurd h h0
theorem fault_rise : ∀ (l : List Pr) (p : Option Pr), faultF p l = 0 → (∀ q, p = some q → ∀ x ∈ l, lessB q.1 x.1 = true) ∧ l.Pairwise (fun a b => lessB a.1 b.1 = true)
  | [], _, _ => ⟨fun q _ x hx => (by cases hx), List.Pairwise.nil⟩
  | y :: r, p, h => by
    rw [faultF] at h
    by_cases h0 : oneF p y = 0
    · rw [if_pos h0] at h
      obtain ⟨h1, h2⟩ := fault_rise r (some y) h
      have hp : prevOk p y = true := by
        unfold oneF at h0
        split at h0
        · cases h0
        · split at h0
          · cases h0
          · split at h0
            · cases h0
            · rename_i h; simpa using h
      refine ⟨fun q hq x hx => ?_, List.pairwise_cons.2 ⟨fun x hx => h1 y rfl x hx, h2⟩⟩
      subst hq
      rcases List.mem_cons.1 hx with rfl | hx
      · exact hp
      · exact lessB_sto.tr _ _ _ hp (h1 y rfl x hx)
    · rw [if_neg h0] at h; exact absurd h h0
theorem word_runes {x : Pr} (h : wordB x.1.data.toList = true) : ∃ xs, rs x.1.data.toList = some xs ∧ 1 ≤ xs.length ∧ xs.length ≤ 24 ∧ x.1.size ≤ 96 ∧ xs.all isR = true := by
  have hw := h
  unfold wordB at h
  cases hr : rs x.1.data.toList with
  | none => rw [hr] at h; cases h
  | some xs =>
    rw [hr] at h
    simp only [Bool.and_eq_true, decide_eq_true_eq] at h
    have h1 := (rs_len hr).1
    rw [size_length] at h1
    exact ⟨xs, rfl, h.1.1, h.1.2, by omega, (rs_write hr).1⟩
/-- What a dictionary's entries are. -/
structure DictOk (l : List Pr) : Prop where
  wd : Wd l
  en : EnOk (ents l)
  rise : Rise (ents l)
  len : l.length ≤ 4096
  pos : ∀ e ∈ ents l, e.1 ≠ []
theorem dict_ok {l : List Pr} (h : buildE l = 0) : DictOk l := by
  unfold buildE at h
  split at h
  · cases h
  · rename_i hl
    have ha := fault_all l none h
    have hR := (fault_rise l none h).2
    have hent : ∀ e ∈ ents l, ∃ x ∈ l, ∃ xs, rs x.1.data.toList = some xs ∧ e = (xs, x.2) ∧ 1 ≤ xs.length ∧ xs.length ≤ 24 ∧ xs.all isR = true := fun e he => by
      obtain ⟨x, hx, rfl⟩ := List.mem_map.1 he
      obtain ⟨xs, h1, h2, h3, _, h4⟩ := word_runes (ha x hx).1
      exact ⟨x, hx, xs, h1, by rw [entOf, h1]; rfl, h2, h3, h4⟩
    refine ⟨fun x hx => ?_, ⟨fun e he => ?_, fun e he c hc => ?_, fun e he => ?_⟩, ?_, by omega, fun e he => ?_⟩
    · obtain ⟨xs, h1, h2, h3, h4, _⟩ := word_runes (ha x hx).1
      exact ⟨xs, h1, h3, h4⟩
    · obtain ⟨x, hx, rfl⟩ := List.mem_map.1 he
      exact (ha x hx).2
    · obtain ⟨x, hx, xs, h1, rfl, h2, h3, h4⟩ := hent e he
      have := of_decide_eq_true (List.all_eq_true.1 h4 c hc)
      constructor <;> omega
    · obtain ⟨x, hx, xs, h1, rfl, h2, h3, h4⟩ := hent e he
      exact h3
    · unfold Rise ents
      rw [List.pairwise_map]
      refine List.Pairwise.imp_of_mem ?_ hR
      intro a b ha' hb' hab
      obtain ⟨xs, h1, _⟩ := word_runes (ha a ha').1
      obtain ⟨ys, h2, _⟩ := word_runes (ha b hb').1
      rw [entOf, entOf, h1, h2]
      show lexL xs ys = true
      rw [← order_rs h1 h2, ← less_lex]
      exact hab
    · obtain ⟨x, hx, xs, h1, rfl, h2, h3, h4⟩ := hent e he
      exact List.length_pos_iff.1 (show 0 < xs.length by omega)
theorem bulk_le {l : List En} (h : ∀ e ∈ l, e.1.length ≤ 24) : bulk l ≤ l.length * 25 := by
  induction l with
  | nil => simp [bulk]
  | cons e r ih =>
    have h1 := h e (by simp)
    have h2 := ih fun x hx => h x (by simp [hx])
    rw [bulk_cons, List.length_cons]
    omega
/-- What Build says. -/
structure BuildSays (w w' : World) (l : List Pr) (base : Int) (vs : Value) (b : List St) : Prop where
  bel : Below w.heap.size w w'
  row : StRow w.heap.size w' vs b
  mach : machOf l = (base, b)
end Go.Proofs.YthjlihhknaelaaaDoor

/- The least that a state or its arcs add is 0; machines of dictionaries. -/
namespace Go.Proofs.YthjlihhknaelaaaDoor
open Nums Fm

namespace Fm
def lowF (m : Int) : List Arc → Int
  | [] => m
  | a :: r => lowF (if a.out < m then a.out else m) r
def lowOf (s : St) : Int := lowF (if s.final then s.out else 1099511627776) s.arcs
theorem lowF_ge : ∀ (l : List Arc) (m : Int), 0 ≤ m → (∀ a ∈ l, 0 ≤ a.out) → 0 ≤ lowF m l
  | [], _, h, _ => h
  | a :: r, m, h, ha => by
    rw [lowF]
    refine lowF_ge r _ ?_ (fun x hx => ha x (by simp [hx]))
    have := ha a (by simp)
    split <;> omega
theorem lowF_le : ∀ (l : List Arc) (m : Int), lowF m l ≤ m ∧ ∀ a ∈ l, lowF m l ≤ a.out
  | [], _ => ⟨Int.le_refl _, fun a ha => by cases ha⟩
  | c :: r, m => by
    rw [lowF]
    obtain ⟨h1, h2⟩ := lowF_le r (if c.out < m then c.out else m)
    have h3 : (if c.out < m then c.out else m) ≤ m ∧ (if c.out < m then c.out else m) ≤ c.out := by split <;> omega
    refine ⟨by omega, fun a ha => ?_⟩
    rcases List.mem_cons.1 ha with rfl | ha
    · omega
    · exact h2 a ha
theorem state_level {D : List (List En)} {b : List St} (h : Inv D b) {i : Nat} {s : St} (hi : b[i]? = some s) : (s.final = true → 0 ≤ s.out) ∧ (∀ a ∈ s.arcs, 0 ≤ a.out) ∧ ((s.final = true ∧ s.out = 0) ∨ ∃ a ∈ s.arcs, a.out = 0) := by
  obtain ⟨e1, _, c⟩ := h.row i s hi
  obtain ⟨hne, hl⟩ := h.lv _ (List.mem_of_getElem? e1)
  have hall : ∀ e ∈ exp D s, 0 ≤ e.2 := fun e he => by rw [← hl]; exact least_all he
  have hmem : ∀ a ∈ s.arcs, ∀ x ∈ D[a.to]?.getD [], pre a.label (x.1, x.2 + a.out) ∈ exp D s := fun a ha x hx => by
    refine List.mem_append_right _ (List.mem_flatMap.2 ⟨_, List.mem_map.2 ⟨a, ha, rfl⟩, List.mem_map.2 ⟨(x.1, x.2 + a.out), ?_, rfl⟩⟩)
    exact List.mem_map.2 ⟨x, hx, rfl⟩
  have hout : ∀ a ∈ s.arcs, 0 ≤ a.out := fun a ha => by
    have hv := h.lv _ (List.getElem_mem (c.to a ha))
    obtain ⟨x, hx, h0⟩ := least_mem hv.1
    have := hall _ (hmem a ha x (by rw [List.getElem?_eq_getElem (c.to a ha)]; exact hx))
    simp only [pre] at this
    omega
  refine ⟨fun hf => hall ([], s.out) (List.mem_append_left _ (by simp [fins, hf])), hout, ?_⟩
  obtain ⟨e, he, h0⟩ := least_mem hne
  rw [hl] at h0
  rcases List.mem_append.1 he with he | he
  · unfold fins at he
    split at he
    · rename_i hf
      rw [List.mem_singleton.1 he] at h0
      exact .inl ⟨hf, h0⟩
    · cases he
  · obtain ⟨p, hp, h2⟩ := List.mem_flatMap.1 he
    obtain ⟨a, ha, rfl⟩ := List.mem_map.1 hp
    obtain ⟨y, hy, rfl⟩ := List.mem_map.1 h2
    obtain ⟨x, hx, rfl⟩ := List.mem_map.1 hy
    rw [List.getElem?_eq_getElem (c.to a ha), Option.getD_some] at hx
    have hv := h.lv _ (List.getElem_mem (c.to a ha))
    have h1 := least_all hx
    rw [hv.2] at h1
    have h2 := hout a ha
    simp only [pre] at h0
    exact .inr ⟨a, ha, by omega⟩
theorem state_low {D : List (List En)} {b : List St} (h : Inv D b) {i : Nat} {s : St} (hi : b[i]? = some s) : lowOf s = 0 := by
  obtain ⟨h1, h2, h3⟩ := state_level h hi
  have hge : 0 ≤ lowOf s := lowF_ge _ _ (by split; exact h1 (by assumption); omega) h2
  obtain ⟨h4, h5⟩ := lowF_le s.arcs (if s.final then s.out else 1099511627776)
  have hle : lowOf s ≤ 0 := by
    rcases h3 with ⟨hf, h0⟩ | ⟨a, ha, h0⟩
    · rw [if_pos hf] at h4
      unfold lowOf
      rw [if_pos hf]
      omega
    · have := h5 a ha
      unfold lowOf
      omega
  omega
end Fm
theorem ents_ne {l : List Pr} (h : l ≠ []) : ents l ≠ [] := by simp [ents, h]
theorem dict_good {l : List Pr} (h : buildE l = 0) (hl : l ≠ []) : Fm.Good 25 (ents l) := by
  have hd := dict_ok h
  exact ⟨ents_ne hl, hd.rise, fun e he => by have := hd.en.ln e he; omega⟩
/-- The machine of a dictionary. -/
theorem mach_inv {l : List Pr} (h : buildE l = 0) : ∃ D, Inv D (machOf l).2 := by
  by_cases hl : l = []
  · subst hl
    exact ⟨[], Inv.nil⟩
  · obtain ⟨D, M⟩ := stF_spec 25 [] [] (ents l) Inv.nil (dict_good h hl)
    rw [machOf, if_pos ⟨h, hl⟩]
    exact ⟨D, M.inv⟩
end Go.Proofs.YthjlihhknaelaaaDoor

/- What a machine says of runes from its root on: plain mathematics. -/
namespace Go.Proofs.YthjlihhknaelaaaDoor
open Nums Fm

namespace Fm
/-- The weight of a word among some. -/
def wt (xs : List Int) (S : List En) : Option Int := (S.find? fun e => e.1 == xs).map (·.2)
/-- What is left behind a rune. -/
def after (c : Int) : List En → List En
  | [] => []
  | e :: r => if e.1.head? = some c then tl e :: after c r else after c r
theorem wt_nil (xs : List Int) : wt xs [] = none := rfl
theorem wt_cons (xs : List Int) (e : En) (r : List En) : wt xs (e :: r) = if e.1 = xs then some e.2 else wt xs r := by
  unfold wt
  rw [List.find?_cons]
  by_cases h : e.1 = xs
  · rw [if_pos h, beq_iff_eq.2 h]; rfl
  · rw [if_neg h, beq_eq_false_iff_ne.2 h]
theorem wt_after (c : Int) (t : List Int) : ∀ S : List En, wt (c :: t) S = wt t (after c S)
  | [] => rfl
  | e :: r => by
    obtain ⟨x, n⟩ := e
    rw [wt_cons, after, wt_after c t r]
    cases x with
    | nil => simp
    | cons d y =>
      by_cases h : d = c
      · subst h
        have e1 : tl (d :: y, n) = (y, n) := rfl
        simp only [List.head?_cons, if_true, e1]
        rw [wt_cons]
        simp only [List.cons.injEq, true_and]
      · have h1 : ¬ (d :: y = c :: t) := fun e => h (List.cons.inj e).1
        have h2 : ¬ (some d = some c) := fun e => h (Option.some.inj e)
        simp only [List.head?_cons, h1, h2, if_false]
theorem after_append (c : Int) : ∀ (S T : List En), after c (S ++ T) = after c S ++ after c T
  | [], _ => rfl
  | e :: r, T => by
    rw [List.cons_append, after, after, after_append c r T]
    split <;> rfl
theorem after_pre (c d : Int) : ∀ G : List En, after c (G.map (pre d)) = if d = c then G else []
  | [] => by simp [after]
  | e :: r => by
    rw [List.map_cons, after, after_pre c d r]
    by_cases h : d = c
    · subst h; simp [pre, tl]
    · simp [pre, h]
theorem after_shift (n : Int) (c : Int) : ∀ S : List En, after c (shift n S) = shift n (after c S)
  | [] => rfl
  | e :: r => by
    rw [shift, List.map_cons, ← shift, after, after, after_shift n c r]
    by_cases h : e.1.head? = some c
    · rw [if_pos h, if_pos h]; rfl
    · rw [if_neg h, if_neg h]
theorem after_mem {c : Int} : ∀ {S : List En} {e : En}, e ∈ after c S → pre c e ∈ S
  | [], e, h => by cases h
  | x :: r, e, h => by
    rw [after] at h
    split at h
    · rename_i hx
      rcases List.mem_cons.1 h with rfl | h
      · have : pre c (tl x) = x := by
          obtain ⟨y, n⟩ := x
          cases y with
          | nil => cases hx
          | cons d t =>
            simp only [List.head?_cons, Option.some.injEq] at hx
            subst hx
            rfl
        rw [this]; simp
      · exact .tail _ (after_mem h)
    · exact .tail _ (after_mem h)
/-- No arc has the rune. -/
theorem after_none {D : List (List En)} {c : Int} : ∀ (l : List Arc), (∀ a ∈ l, a.label ≠ c) → after c (flat (outs D l)) = []
  | [], _ => rfl
  | a :: r, h => by
    have e : flat (outs D (a :: r)) = (shift a.out (D[a.to]?.getD [])).map (pre a.label) ++ flat (outs D r) := rfl
    rw [e, after_append, after_pre, if_neg (h a (by simp)), after_none r fun x hx => h x (by simp [hx])]
    rfl
theorem after_some {D : List (List En)} {c : Int} : ∀ (l : List Arc) (a : Arc), l.Pairwise (fun a b => a.label < b.label) → a ∈ l → a.label = c → after c (flat (outs D l)) = shift a.out (D[a.to]?.getD [])
  | [], _, _, h, _ => by cases h
  | x :: r, a, hp, h, hc => by
    obtain ⟨h1, h2⟩ := List.pairwise_cons.1 hp
    have e : flat (outs D (x :: r)) = (shift x.out (D[x.to]?.getD [])).map (pre x.label) ++ flat (outs D r) := rfl
    rw [e, after_append, after_pre]
    rcases List.mem_cons.1 h with rfl | h
    · rw [if_pos hc, after_none r fun y hy => by have := h1 y hy; omega, List.append_nil]
    · have := h1 a h
      rw [if_neg (by omega), after_some r a h2 h hc]
      rfl
theorem after_fins (c : Int) (s : St) : after c (fins s) = [] := by
  unfold fins
  split
  · simp [after]
  · rfl
theorem exp_after {D : List (List En)} {s : St} (c : Int) : after c (exp D s) = after c (flat (outs D s.arcs)) := by
  rw [exp, after_append, after_fins, List.nil_append]
theorem wt_zero {D : List (List En)} {s : St} (n : Int) : wt [] (shift n (exp D s)) = if s.final then some (n + s.out) else none := by
  have hne : ∀ T : List En, (∀ e ∈ T, e.1 ≠ []) → wt [] T = none := by
    intro T
    induction T with
    | nil => intro _; rfl
    | cons e r ih =>
      intro h
      rw [wt_cons, if_neg (h e (by simp)), ih fun x hx => h x (by simp [hx])]
  have h2 : ∀ e ∈ shift n (flat (outs D s.arcs)), e.1 ≠ [] := fun e he => by
    obtain ⟨x, hx, rfl⟩ := List.mem_map.1 he
    exact flat_ne x hx
  have e : shift n (exp D s) = shift n (fins s) ++ shift n (flat (outs D s.arcs)) := by rw [exp, shift, List.map_append]; rfl
  rw [e, fins]
  split
  · simp only [shift, List.map_cons, List.map_nil, List.cons_append, List.nil_append]
    rw [wt_cons, if_pos rfl, Int.add_comm]
  · exact hne _ h2
/-- Where the walk stands: at a state, or nowhere. -/
def Stands (D : List (List En)) (b : List St) (S : List En) (xs : List Int) (i : Nat) (at' sum : Int) : Prop :=
  (at' = -1 ∧ wt xs S = none) ∨ ∃ (n : Nat) (R : List En), at' = n ∧ n < b.length ∧ D[n]? = some R ∧ wt xs S = wt (xs.drop i) (shift sum R) ∧ ∀ e ∈ shift sum R, 1 ≤ e.2 ∧ e.2 ≤ 1048576
theorem Stands.sum {D : List (List En)} {b : List St} (hI : Inv D b) {S : List En} {xs : List Int} {i n : Nat} {sum : Int} (h : Stands D b S xs i n sum) : 1 ≤ sum ∧ sum ≤ 1048576 := by
  rcases h with ⟨h, _⟩ | ⟨m, R, h1, h2, h3, h4, h5⟩
  · omega
  · obtain ⟨v1, v2⟩ := hI.lv R (List.mem_of_getElem? h3)
    obtain ⟨e, he, h0⟩ := least_mem v1
    have := h5 (e.1, e.2 + sum) (List.mem_map.2 ⟨e, he, rfl⟩)
    simp only at this
    omega
/-- One rune on. -/
theorem Stands.next {D : List (List En)} {b : List St} (hI : Inv D b) {S : List En} {xs : List Int} {i n : Nat} {sum c : Int} {s : St} (h : Stands D b S xs i n sum) (hs : b[n]? = some s) (hc : xs[i]? = some c) :
    ((∀ a ∈ s.arcs, a.label ≠ c) → ∀ sum', Stands D b S xs (i + 1) (-1) sum') ∧ ∀ a ∈ s.arcs, a.label = c → Stands D b S xs (i + 1) a.to (sum + a.out) ∧ a.to < b.length ∧ 1 ≤ sum + a.out ∧ sum + a.out ≤ 1048576 := by
  rcases h with ⟨h, _⟩ | ⟨m, R, h1, h2, h3, h4, h5⟩
  · omega
  · have hnm : m = n := by omega
    subst hnm
    obtain ⟨e1, e2, ct⟩ := hI.row m s hs
    rw [h3] at e1
    have hR : R = exp D s := Option.some.inj e1
    have hd : xs.drop i = c :: xs.drop (i + 1) := by
      obtain ⟨hi, rfl⟩ := List.getElem?_eq_some_iff.1 hc
      exact List.drop_eq_getElem_cons hi
    rw [hd, wt_after, after_shift, hR, exp_after] at h4
    refine ⟨fun hno sum' => .inl ⟨rfl, ?_⟩, fun a ha hac => ?_⟩
    · rw [h4, after_none _ hno]; rfl
    · have hlt : a.to < b.length := by have := ct.to a ha; have := hI.len; omega
      have haf := after_some (D := D) s.arcs a ct.lab ha hac
      have hst : Stands D b S xs (i + 1) a.to (sum + a.out) := by
        refine .inr ⟨a.to, D[a.to]?.getD [], rfl, hlt, ?_, ?_, fun e he => ?_⟩
        · rw [List.getElem?_eq_getElem (ct.to a ha)]; rfl
        · rw [h4, haf, shift_shift]
          congr 2
          omega
        · rw [Int.add_comm sum a.out, ← shift_shift, ← haf, ← exp_after, ← after_shift, ← hR] at he
          exact h5 (pre c e) (after_mem he)
      have hsum := hst.sum hI
      exact ⟨hst, hlt, hsum.1, hsum.2⟩
end Fm
/-- The root is the last state. -/
theorem root_last {f : Nat} {S : List En} (hG : Fm.Good (f + 1) S) : (stF (f + 1) [] S).2 + 1 = (stF (f + 1) [] S).1.length := by
  obtain ⟨hr1, hr2⟩ := rise_rest hG.2.1
  have hgg := good_groups hG
  have hfl := flat_grp _ (restOf S) (Nat.le_refl _) hr2
  obtain ⟨D1, M⟩ := arF_spec (base := least S) (stF_spec f) (grp (restOf S)) [] [] Inv.nil hgg
  rw [stF]
  generalize arF (stF f) (least S) [] (grp (restOf S)) = q at M
  obtain ⟨b1, arcs⟩ := q
  simp only at M ⊢
  have hexp : exp D1 ⟨finOf S, outOf S, arcs⟩ = level S := by
    rw [exp, level, fins_shift S arcs, M.outs, ← flat_shift, hfl]
  have hnot : (⟨finOf S, outOf S, arcs⟩ : St) ∉ b1 := fun hm => by
    obtain ⟨j, hj⟩ := List.mem_iff_getElem?.1 hm
    have h1 := (M.inv.row j _ hj).1
    rw [hexp] at h1
    -- the longest word of S is longer than any of a rest
    have key : ∀ (R : List En) (T : List En) (k : Nat), Sub T R → (∀ e ∈ T, e.1.length ≤ k) → ∀ e ∈ R, e.1.length ≤ k := by
      intro R T k hs
      induction hs with
      | here T =>
        intro h e he
        obtain ⟨x, hx, rfl⟩ := List.mem_map.1 he
        exact h x hx
      | @step T' R' p hp hsub ih =>
        intro h
        refine ih fun e he => ?_
        -- e of a group: its word is in T'
        have hmem : ∀ (l : List En) (m : Nat), l.length ≤ m → ∀ p ∈ grp l, ∀ e ∈ p.2, ∃ x ∈ l, e = tl x := by
          intro l m
          induction m generalizing l with
          | zero => intro hl p hp; have : l = [] := List.eq_nil_of_length_eq_zero (by omega); subst this; cases hp
          | succ m ihm =>
            intro hl p hp e he
            cases l with
            | nil => cases hp
            | cons y r =>
              rw [grp_cons] at hp
              rcases List.mem_cons.1 hp with rfl | hp
              · obtain ⟨x, hx, rfl⟩ := List.mem_map.1 he
                exact ⟨x, List.mem_of_mem_take hx, rfl⟩
              · obtain ⟨x, hx, h2⟩ := ihm ((y :: r).drop (lead (hd y) r + 1)) (by rw [List.length_drop]; simp at hl ⊢; omega) p hp e he
                exact ⟨x, List.mem_of_mem_drop hx, h2⟩
        obtain ⟨x, hx, rfl⟩ := hmem _ _ (Nat.le_refl _) p hp e he
        have hxT : x ∈ T' := by
          cases T' with
          | nil => exact hx
          | cons y r =>
            obtain ⟨a, n⟩ := y
            cases a with
            | nil => exact .tail _ hx
            | cons c t => exact hx
        have := h x hxT
        simp only [tl, List.length_tail]
        omega
    have hlong : ∃ e ∈ S, ∀ x ∈ S, x.1.length ≤ e.1.length := by
      have : ∀ T : List En, T ≠ [] → ∃ e ∈ T, ∀ x ∈ T, x.1.length ≤ e.1.length := by
        intro T
        induction T with
        | nil => intro h; exact absurd rfl h
        | cons y r ih =>
          intro _
          by_cases hr : r = []
          · subst hr; exact ⟨y, by simp, fun x hx => by rw [List.mem_singleton] at hx; subst hx; exact Nat.le_refl _⟩
          · obtain ⟨e, he, h⟩ := ih hr
            by_cases hl : e.1.length ≤ y.1.length
            · exact ⟨y, by simp, fun x hx => by
                rcases List.mem_cons.1 hx with rfl | hx
                · exact Nat.le_refl _
                · exact Nat.le_trans (h x hx) hl⟩
            · exact ⟨e, by simp [he], fun x hx => by
                rcases List.mem_cons.1 hx with rfl | hx
                · omega
                · exact h x hx⟩
      exact this S hG.1
    obtain ⟨e, he, hmax⟩ := hlong
    rcases M.sub _ (List.mem_of_getElem? h1) with h | ⟨p, hp, h⟩
    · cases h
    · obtain ⟨g0, hg0⟩ : ∃ g0, g0 ∈ p.2 := List.exists_mem_of_ne_nil _ (grp_ne _ _ (Nat.le_refl _) p hp)
      have hpos : 0 < e.1.length := by
        have h2 := grp_mem hr2 hp hg0
        have h3 : pre p.1 g0 ∈ S := by
          cases S with
          | nil => exact h2
          | cons y r =>
            obtain ⟨a, n⟩ := y
            cases a with
            | nil => exact .tail _ h2
            | cons c t => exact h2
        have := hmax _ h3
        simp only [pre, List.length_cons] at this
        omega
      have hk := key _ p.2 (e.1.length - 1) h (fun x hx => by
        have h2 := grp_mem hr2 hp hx
        have h3 : pre p.1 x ∈ S := by
          cases S with
          | nil => exact h2
          | cons y r =>
            obtain ⟨a, n⟩ := y
            cases a with
            | nil => exact .tail _ h2
            | cons c t => exact h2
        have := hmax _ h3
        simp only [pre, List.length_cons] at this
        omega) (e.1, e.2 + -least S) (List.mem_map.2 ⟨e, he, rfl⟩)
      simp only at hk
      omega
  rw [numSt, if_neg hnot]
  simp
/-- A dictionary's machine, from its root. -/
theorem mach_root {l : List Pr} (h : buildE l = 0) : ∃ D, Inv D (machOf l).2 ∧ ∀ xs, Stands D (machOf l).2 (ents l) xs 0 ((machOf l).2.length - 1) (machOf l).1 := by
  by_cases hl : l = []
  · subst hl
    exact ⟨[], Inv.nil, fun xs => .inl ⟨rfl, rfl⟩⟩
  · have hg := dict_good h hl
    obtain ⟨D, M⟩ := stF_spec 25 [] [] (ents l) Inv.nil hg
    have hrl : (stF 25 [] (ents l)).2 + 1 = (stF 25 [] (ents l)).1.length := root_last (f := 24) hg
    rw [machOf, if_pos ⟨h, hl⟩]
    refine ⟨D, M.inv, fun xs => .inr ⟨(stF 25 [] (ents l)).2, level (ents l), ?_, (show (stF 25 [] (ents l)).2 < (stF 25 [] (ents l)).1.length by omega), M.num, ?_, ?_⟩⟩
    · simp only; omega
    · have : shift (least (ents l)) (level (ents l)) = ents l := by rw [shift_level, Int.sub_self, shift_zero]
      rw [this]; rfl
    · have : shift (least (ents l)) (level (ents l)) = ents l := by rw [shift_level, Int.sub_self, shift_zero]
      simp only
      rw [this]
      exact (dict_ok h).en.wt
end Go.Proofs.YthjlihhknaelaaaDoor

/- Machines that are read: plain data, and when they are right. No program is named here. -/
namespace Go.Proofs.YthjlihhknaelaaaDoor.Pk
open Go.Proofs.YthjlihhknaelaaaDoor.Nums

structure RArc where
  label : Int
  out : Int
  to : Int
deriving DecidableEq
structure RSt where
  final : Bool
  out : Int
  arcs : List RArc
deriving DecidableEq
/-- The least that a state or its arcs say. -/
def minF (m : Int) : List RArc → Int
  | [] => m
  | a :: r => minF (min m a.out) r
def leastS (s : RSt) : Int := minF (if s.final then s.out else 9223372036854775807) s.arcs
def wordR (r : Int) : Bool := isR r && vis r
/-- Arcs rise, and lead to lower numbers. -/
def ordB (n : Int) : Option Int → List RArc → Bool
  | _, [] => true
  | p, a :: r => !(p.any fun q => decide (a.label ≤ q)) && wordR a.label && decide (0 ≤ a.to ∧ a.to < n) && ordB n (some a.label) r
def formS (s : RSt) (i : Nat) : Bool := (s.final || decide (s.out = 0)) && decide (leastS s = 0) && ordB i none s.arcs
def formB : Nat → List RSt → Bool
  | _, [] => true
  | i, s :: r => formS s i && formB (i + 1) r
/-- What all ways on from a state come to. -/
structure Reach where
  arcs : Int
  words : Int
  weight : Int
deriving DecidableEq
def stepR (known : List Reach) (r : Reach) (a : RArc) : Reach :=
  ⟨max r.arcs ((known.getD a.to.toNat ⟨0, 0, 0⟩).arcs + 1), r.words + (known.getD a.to.toNat ⟨0, 0, 0⟩).words, max r.weight (min a.out 1048576 + (known.getD a.to.toNat ⟨0, 0, 0⟩).weight)⟩
def behR (s : RSt) (known : List Reach) : Reach := s.arcs.foldl (stepR known) (if s.final then ⟨0, 1, s.out⟩ else ⟨0, 0, 0⟩)
def okR (base : Int) (r : Reach) : Bool := decide (r.arcs ≤ 24 ∧ r.words ≤ 4096 ∧ r.weight ≤ 1048576 - base)
def bndB (base : Int) : List Reach → List RSt → Bool
  | _, [] => true
  | known, s :: r => okR base (behR s known) && bndB base (known ++ [behR s known]) r
/-- States get their numbers as one goes from one of them on; none: something is amiss. -/
def vArcs (visit : Nat → Nat → Option Nat) : List RArc → Nat → Option Nat
  | [], next => some next
  | a :: r, next => if (next : Int) ≤ a.to then (visit a.to.toNat next).bind (vArcs visit r) else vArcs visit r next
def vis8 (m : List RSt) : Nat → Nat → Nat → Option Nat
  | 0, _, _ => none
  | f + 1, n, next => (vArcs (vis8 m f) (m.getD n ⟨false, 0, []⟩).arcs next).bind fun k => if n = k then some (k + 1) else none
def numB (m : List RSt) : Bool := (vis8 m (m.length + 25) (m.length - 1) 0).isSome
def rightB (base : Int) (m : List RSt) : Bool :=
  if m = [] then decide (base = 0) else
    decide (1 ≤ base ∧ base ≤ 1048576) && !(m.getD (m.length - 1) ⟨false, 0, []⟩).final && formB 0 m && bndB base [] m && numB m && decide m.Nodup
end Go.Proofs.YthjlihhknaelaaaDoor.Pk

/- Rests behind beginnings: what Rises goes through. Plain mathematics. -/
namespace Go.Proofs.YthjlihhknaelaaaDoor.Fm
open Go.Proofs.YthjlihhknaelaaaDoor.Nums

def behind : List Int → List En → List En
  | [], S => S
  | c :: t, S => behind t (after c S)
theorem behind_snoc : ∀ (p : List Int) (c : Int) (S : List En), behind (p ++ [c]) S = after c (behind p S)
  | [], _, _ => rfl
  | d :: t, c, S => behind_snoc t c (after d S)
theorem behind_step {xs : List Int} {k : Nat} {c : Int} (h : xs[k]? = some c) (S : List En) : behind (xs.take (k + 1)) S = after c (behind (xs.take k) S) := by
  rw [List.take_add_one, h]
  exact behind_snoc _ _ _
theorem after_rest (c : Int) (S : List En) : after c (restOf S) = after c S := by
  cases S with
  | nil => rfl
  | cons e r =>
    obtain ⟨x, n⟩ := e
    cases x with
    | nil => simp [restOf, after]
    | cons d t => rfl
theorem after_flat_none {c : Int} : ∀ (gs : List (Int × List En)), (∀ p ∈ gs, p.1 ≠ c) → after c (flat gs) = []
  | [], _ => rfl
  | p :: r, h => by
    have e : flat (p :: r) = p.2.map (pre p.1) ++ flat r := rfl
    rw [e, after_append, after_pre, if_neg (h p (by simp)), after_flat_none r fun x hx => h x (by simp [hx])]
    rfl
theorem after_flat {c : Int} : ∀ (gs : List (Int × List En)) (p : Int × List En), gs.Pairwise (fun a b => a.1 < b.1) → p ∈ gs → p.1 = c → after c (flat gs) = p.2
  | [], _, _, h, _ => by cases h
  | x :: r, p, hp, h, hc => by
    obtain ⟨h1, h2⟩ := List.pairwise_cons.1 hp
    have e : flat (x :: r) = x.2.map (pre x.1) ++ flat r := rfl
    rw [e, after_append, after_pre]
    rcases List.mem_cons.1 h with rfl | h
    · rw [if_pos hc, after_flat_none r fun y hy => by have := h1 y hy; omega, List.append_nil]
    · have := h1 p h
      rw [if_neg (by omega), after_flat r p h2 h hc]
      rfl
theorem grp_after {S : List En} (hS : Rise S) {p : Int × List En} (hp : p ∈ grp (restOf S)) : after p.1 S = p.2 := by
  obtain ⟨h1, h2⟩ := rise_rest hS
  have hf := flat_grp _ (restOf S) (Nat.le_refl _) h2
  have hl := (grp_labels _ (restOf S) (Nat.le_refl _) h2 h1).1
  rw [← after_rest, ← hf]
  exact after_flat _ p hl hp rfl
theorem after_in_grp {S : List En} (hS : Rise S) {c : Int} (h : after c S ≠ []) : (c, after c S) ∈ grp (restOf S) := by
  obtain ⟨h1, h2⟩ := rise_rest hS
  have hf := flat_grp _ (restOf S) (Nat.le_refl _) h2
  have hex : ∃ p ∈ grp (restOf S), p.1 = c := by
    apply Classical.byContradiction
    intro hno
    apply h
    rw [← after_rest, ← hf]
    exact after_flat_none _ fun p hp e => hno ⟨p, hp, e⟩
  obtain ⟨p, hp, e⟩ := hex
  have hpa := grp_after hS hp
  rw [e] at hpa
  rw [hpa, ← e]
  exact hp
theorem after_has {c : Int} {t : List Int} {n : Int} : ∀ {S : List En}, (c :: t, n) ∈ S → (t, n) ∈ after c S
  | [], h => by cases h
  | e :: r, h => by
    rw [after]
    rcases List.mem_cons.1 h with h | h
    · rw [← h]
      simp [tl]
    · split
      · exact .tail _ (after_has h)
      · exact after_has h
theorem after_rise {S : List En} (hS : Rise S) (c : Int) : Rise (after c S) := by
  by_cases h : after c S = []
  · rw [h]; exact List.Pairwise.nil
  · obtain ⟨h1, h2⟩ := rise_rest hS
    exact grp_rise _ (restOf S) (Nat.le_refl _) h2 h1 _ (after_in_grp hS h)
/-- What stands behind a word's beginning. -/
theorem behind_word : ∀ (xs : List Int) (n : Int) (S : List En), Rise S → (xs, n) ∈ S → ∀ k, k ≤ xs.length → Sub S (level (behind (xs.take k) S)) ∧ (xs.drop k, n) ∈ behind (xs.take k) S
  | xs, n, S, _, hm, 0, _ => by
    rw [List.take_zero, List.drop_zero]
    exact ⟨.here S, hm⟩
  | [], _, _, _, _, k + 1, hk => by simp at hk
  | c :: t, n, S, hr, hm, k + 1, hk => by
    have hm2 := after_has hm
    obtain ⟨h1, h2⟩ := behind_word t n (after c S) (after_rise hr c) hm2 k (by simpa using hk)
    rw [List.take_succ_cons, List.drop_succ_cons, behind]
    exact ⟨.step (after_in_grp hr (fun e => by rw [e] at hm2; cases hm2)) h1, h2⟩
theorem sub_word {S R : List En} (hs : Sub S R) : Rise S → S ≠ [] → ∃ xs n, (xs, n) ∈ S ∧ ∃ k, k ≤ xs.length ∧ R = level (behind (xs.take k) S) := by
  induction hs with
  | here S =>
    intro _ hne
    obtain ⟨e, he⟩ := List.exists_mem_of_ne_nil _ hne
    exact ⟨e.1, e.2, he, 0, Nat.zero_le _, rfl⟩
  | @step S R p hp hsub ih =>
    intro hr _
    have hpa := grp_after hr hp
    obtain ⟨h1, h2⟩ := rise_rest hr
    obtain ⟨xs, n, hm, k, hk, hR⟩ := ih (grp_rise _ (restOf S) (Nat.le_refl _) h2 h1 p hp) (grp_ne _ _ (Nat.le_refl _) p hp)
    rw [← hpa] at hm hR
    exact ⟨p.1 :: xs, n, after_mem hm, k + 1, by simpa using hk, by rw [List.take_succ_cons]; exact hR⟩
theorem behind_mem : ∀ (p : List Int) (S : List En) (e : En), e ∈ behind p S → ∃ x ∈ S, e.2 = x.2 ∧ e.1.length ≤ x.1.length
  | [], S, e, h => ⟨e, h, rfl, Nat.le_refl _⟩
  | c :: t, S, e, h => by
    obtain ⟨x, hx, h1, h2⟩ := behind_mem t (after c S) e h
    refine ⟨pre c x, after_mem hx, h1, ?_⟩
    simp only [pre, List.length_cons]
    omega
theorem behind_len : ∀ (p : List Int) (S : List En), (behind p S).length ≤ S.length
  | [], _ => Nat.le_refl _
  | c :: t, S => by
    have h1 := behind_len t (after c S)
    have h2 : ∀ l : List En, (after c l).length ≤ l.length := by
      intro l
      induction l with
      | nil => exact Nat.le_refl _
      | cons e r ih =>
        rw [after]
        split
        · simp only [List.length_cons]; omega
        · simp only [List.length_cons]; omega
    have := h2 S
    rw [behind]
    omega
theorem same_len {α : Type} [DecidableEq α] : ∀ (l m : List α), l.Nodup → m.Nodup → (∀ x, x ∈ l ↔ x ∈ m) → l.length = m.length := by
  have le : ∀ (l m : List α), l.Nodup → (∀ x ∈ l, x ∈ m) → l.length ≤ m.length := by
    intro l
    induction l with
    | nil => intro m _ _; exact Nat.zero_le _
    | cons x r ih =>
      intro m hn hs
      obtain ⟨h1, h2⟩ := List.nodup_cons.1 hn
      have hx := hs x (by simp)
      have := ih (m.erase x) h2 fun y hy => (List.mem_erase_of_ne (fun e : y = x => h1 (by rw [← e]; exact hy))).2 (hs y (by simp [hy]))
      have hl := List.length_erase_of_mem hx
      have hp : 0 < m.length := List.length_pos_of_mem hx
      simp only [List.length_cons]
      omega
  intro l m hl hm h
  exact Nat.le_antisymm (le l m hl fun x hx => (h x).1 hx) (le m l hm fun x hx => (h x).2 hx)
end Go.Proofs.YthjlihhknaelaaaDoor.Fm
