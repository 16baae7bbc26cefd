/- Texts that were written apart, joined. -/
import Derived.Test.YtncnefpkfbngaaaGreatDoorFBld
import Derived.Test.YtncnefpkfbngaaaGreatDoorFMath2
import Derived.Test.YtncnefpkfbngaaaGreatDoorJ3
import Derived.Test.YtncnefpkfbngaaaGreatDoorGh
import Derived.Test.YtncnefpkfbngaaaGreatDoorGg
/- Cut: what the seat's translation lacks is left out. -/
/- (*builder).list. -/
namespace Go.Proofs.YtncnefpkfbngaaaGreatDoor
open Go.RowKit Nums Fm
set_option maxRecDepth 100000

theorem AOwn.at {B : Nat} {w : World} {v : Value} {l : List Arc} (h : AOwn B w v l) (h0 : 0 < l.length) : ∃ g cap, v = .slice (some ⟨g, 0, none⟩) l.length cap ∧ g < w.heap.size ∧ l.length ≤ cap ∧ (∃ cur, w.heap[g]? = some (.cells cur 110 (0, 0))) ∧
 ∀ (i : Nat) (a : Arc), l[i]? = some a → w.cell? ⟨g, i * 3, none⟩ = some (.int .i32 a.label) ∧ w.cell? ⟨g, i * 3 + 1, none⟩ = some (.int .i64 a.out) ∧ w.cell? ⟨g, i * 3 + 2, none⟩ = some (.int .i64 a.to) := by
 obtain ⟨g, cap, rfl, hg, _, hc, hx⟩ := GOwn.cell h (by simpa using h0)
 refine ⟨g, cap, by simp, hg, by simpa using hc, (GOwn.block h rfl).2, fun i a hi => ?_⟩
 have e : (l.map cellsA)[i]? = some (cellsA a) := by rw [List.getElem?_map, hi]; rfl
 exact ⟨hx i 0 _ _ e rfl, hx i 1 _ _ e rfl, hx i 2 _ _ e rfl⟩
/-- What the walk looks at in a round. -/
structure SL (g g2 lb n : Nat) (a : Arc) (w : World) : Prop where
 c : w.cell? ⟨g, 2, none⟩ = some (.map (some g2))
 l0 : w.cell? ⟨lb, 0, none⟩ = some (.int .i64 n)
 l1 : w.cell? ⟨lb, 1, none⟩ = some (.int .i32 a.label)
 l2 : w.cell? ⟨lb, 2, none⟩ = some (.int .i64 a.out)
 l3 : w.cell? ⟨lb, 3, none⟩ = some (.int .i64 a.to)
theorem SL.facts {g g2 lb n : Nat} {a : Arc} {w : World} (h : SL g g2 lb n a w) : w.cell? ⟨g, 2, none⟩ = some (.map (some g2)) ∧ w.cell? ⟨lb, 0, none⟩ = some (.int .i64 n) ∧ w.cell? ⟨lb, 1, none⟩ = some (.int .i32 a.label) ∧ w.cell? ⟨lb, 2, none⟩ = some (.int .i64 a.out) ∧ w.cell? ⟨lb, 3, none⟩ = some (.int .i64 a.to) := ⟨h.c, h.l0, h.l1, h.l2, h.l3⟩
end Go.Proofs.YtncnefpkfbngaaaGreatDoor

/- Cut: what the seat's translation lacks is left out. -/
/- (*builder).number. -/
namespace Go.Proofs.YtncnefpkfbngaaaGreatDoor
open Go.RowKit Nums Fm
set_option maxRecDepth 100000

/-- Three cells of a block that is there. -/
structure TriAt (w : World) (b : Nat) (x y z : Value) : Prop where
 c0 : w.cell? ⟨b, 0, none⟩ = some x
 c1 : w.cell? ⟨b, 1, none⟩ = some y
 c2 : w.cell? ⟨b, 2, none⟩ = some z
theorem TriAt.of {w : World} {b : Nat} {x y z : Value} {T : TypeId} {q : Nat × Nat} (h : w.heap[b]? = some (.cells #[x, y, z] T q)) : TriAt w b x y z := ⟨by simp [World.cell?, h], by simp [World.cell?, h], by simp [World.cell?, h]⟩
theorem TriAt.same {w w' : World} {b : Nat} {x y z : Value} (h : TriAt w b x y z) (e : w'.heap[b]? = w.heap[b]?) : TriAt w' b x y z :=
 ⟨(World.cell?_of_block (a := ⟨b, 0, none⟩) e).trans h.c0, (World.cell?_of_block (a := ⟨b, 1, none⟩) e).trans h.c1, (World.cell?_of_block (a := ⟨b, 2, none⟩) e).trans h.c2⟩
theorem TriAt.facts {w : World} {b : Nat} {x y z : Value} (h : TriAt w b x y z) : w.cell? ⟨b, 0, none⟩ = some x ∧ w.cell? ⟨b, 1, none⟩ = some y ∧ w.cell? ⟨b, 2, none⟩ = some z := ⟨h.c0, h.c1, h.c2⟩
theorem set_other (w : World) (b o : Nat) (x : Value) {k : Nat} (hk : k ≠ b) : (w.setCell ⟨b, o, none⟩ x).heap[k]? = w.heap[k]? := by
 show (w.heap.modify b _)[k]? = _
 rw [Array.getElem?_modify, if_neg (Ne.symm hk)]
theorem set_at {w : World} {b o : Nat} {cur : Array Value} {T : TypeId} {q : Nat × Nat} (h : w.heap[b]? = some (.cells cur T q)) (x : Value) : (w.setCell ⟨b, o, none⟩ x).heap[b]? = some (.cells (cur.setIfInBounds o x) T q) := by
 show (w.heap.modify b _)[b]? = _
 rw [Array.getElem?_modify, if_pos rfl, h]
 rfl
theorem set_rest (w : World) (b o : Nat) (x : Value) : (w.setCell ⟨b, o, none⟩ x).os = w.os ∧ (w.setCell ⟨b, o, none⟩ x).tape = w.tape ∧ (w.setCell ⟨b, o, none⟩ x).output = w.output ∧ (w.setCell ⟨b, o, none⟩ x).heap.size = w.heap.size := by
 refine ⟨rfl, rfl, rfl, ?_⟩
 show (w.heap.modify b _).size = _
 rw [Array.size_modify]
section
variable {A : Nat → Prop} {E g g1 g2 : Nat} {w w' : World} {vs : Value} {b : List St} {m1 : List (SK × Nat)} {m2 : List (LK × Nat)} {D : List (List Arc)}
end
/-- What region 5 looks at. -/
structure S5 (g g1 kb : Nat) (x y z : Value) (w : World) : Prop where
 c : w.cell? ⟨g, 1, none⟩ = some (.map (some g1))
 k : TriAt w kb x y z
theorem S5.facts {g g1 kb : Nat} {x y z : Value} {w : World} (h : S5 g g1 kb x y z w) : w.cell? ⟨g, 1, none⟩ = some (.map (some g1)) ∧ w.cell? ⟨kb, 0, none⟩ = some x ∧ w.cell? ⟨kb, 1, none⟩ = some y ∧ w.cell? ⟨kb, 2, none⟩ = some z := ⟨h.c, h.k.c0, h.k.c1, h.k.c2⟩
/-- What region 6 looks at. -/
structure S6 (g bs : Nat) (vs x y z : Value) (w : World) : Prop where
 c : w.cell? ⟨g, 0, none⟩ = some vs
 k : TriAt w bs x y z
theorem S6.facts {g bs : Nat} {vs x y z : Value} {w : World} (h : S6 g bs vs x y z w) : w.cell? ⟨g, 0, none⟩ = some vs ∧ w.cell? ⟨bs, 0, none⟩ = some x ∧ w.cell? ⟨bs, 1, none⟩ = some y ∧ w.cell? ⟨bs, 2, none⟩ = some z := ⟨h.c, h.k.c0, h.k.c1, h.k.c2⟩
end Go.Proofs.YtncnefpkfbngaaaGreatDoor

/- Cut: what the seat's translation lacks is left out. -/
/- (*builder).number, walked. -/
namespace Go.Proofs.YtncnefpkfbngaaaGreatDoor
open Go.RowKit Nums Fm
set_option maxRecDepth 100000


theorem exec_app {P : Program} {ρ : Operand → Value} {x y : Operand} {t : TypeId} {dst : Option Tmp} {ty : TypeId} {pos : String} {af : Array Edge} {g : Option (Nat × Bool)} {w w' : World} {v : Value} (h : (Builtin.append_ #[t, t] ty #[ρ x, ρ y]).run P w = .ok v w') :
 (execOp ρ ⟨dst, .call { callee := .builtin .append, args := #[x, y], argTypes := #[t, t] }, ty, pos, af, g⟩).run P w = .ok (.value v) w' := by
 simp only [execOp, resolve, invoke, builtin, Sem.run_bind, Sem.run_pure, Result.andThen_ok, List.map_toArray, List.map_cons, List.map_nil, h]

end Go.Proofs.YtncnefpkfbngaaaGreatDoor

/- Cut: what the seat's translation lacks is left out. -/
/- (*builder).state. -/
namespace Go.Proofs.YtncnefpkfbngaaaGreatDoor
open Go.RowKit Nums Fm
set_option maxRecDepth 100000

/-- Entries as they can be. -/
structure EnOk (l : List En) : Prop where
 wt : ∀ e ∈ l, 1 ≤ e.2 ∧ e.2 ≤ 1048576
 rn : ∀ e ∈ l, ∀ c ∈ e.1, Fits32 c
 ln : ∀ e ∈ l, e.1.length ≤ 24
theorem EnOk.sub {l l' : List En} (h : EnOk l) (hs : ∀ e ∈ l', e ∈ l) : EnOk l' := ⟨fun e he => h.wt e (hs e he), fun e he => h.rn e (hs e he), fun e he => h.ln e (hs e he)⟩
/-- What region 4 looks at. -/
def S4E (ge oe : Nat) (n : Int) (w : World) : Prop := w.cell? ⟨ge, oe + 1, none⟩ = some (.int .i64 n)
theorem S4E.facts {ge oe : Nat} {n : Int} {w : World} (h : S4E ge oe n w) : w.cell? ⟨ge, oe + 1, none⟩ = some (.int .i64 n) := h
/-- What region 8 looks at. -/
structure S8 (bs : Nat) (va : Value) (ge oe gr o n c : Nat) (k : Nat) (ch : Int) (w : World) : Prop where
 b : w.cell? ⟨bs, 2, none⟩ = some va
 e : w.cell? ⟨ge, oe, none⟩ = some (.slice (some ⟨gr, o, none⟩) n c)
 r : w.cell? ⟨gr, o + k, none⟩ = some (.int .i32 ch)
theorem S8.facts {bs : Nat} {va : Value} {ge oe gr o n c : Nat} {k : Nat} {ch : Int} {w : World} (h : S8 bs va ge oe gr o n c k ch w) : w.cell? ⟨bs, 2, none⟩ = some va ∧ w.cell? ⟨ge, oe, none⟩ = some (.slice (some ⟨gr, o, none⟩) n c) ∧ w.cell? ⟨gr, o + k, none⟩ = some (.int .i32 ch) := ⟨h.b, h.e, h.r⟩
theorem RunesAt.low {E : Nat} {w : World} {g o n cap : Nat} {xs : List Int} (h : RunesAt E w (.slice (some ⟨g, o, none⟩) n cap) xs) (h0 : 0 < xs.length) : g < E := by
 obtain ⟨ad', cap', e, hc⟩ := h
 simp only [Value.slice.injEq] at e
 obtain ⟨rfl, _, rfl⟩ := e
 obtain ⟨g', off, e, hg, _⟩ := hc h0
 simp only [Option.some.injEq, Addr.mk.injEq] at e
 omega
/-- A row's front and its rest. -/
theorem ERow.take {E : Nat} {w : World} {ge oe n cap m : Nat} {l : List En} (h : ERow E w (.slice (some ⟨ge, oe, none⟩) n cap) l) (hm : m ≤ n) (hm0 : 0 < m) : ERow E w (.slice (some ⟨ge, oe, none⟩) m cap) (l.take m) := by
 have hn : n = l.length := by obtain ⟨_, _, e, _⟩ := h; simp only [Value.slice.injEq] at e; exact e.2.1
 obtain ⟨g', o', e', hg, hc, hx⟩ := h.at (by omega)
 simp only [Option.some.injEq, Addr.mk.injEq] at e'
 obtain ⟨rfl, rfl, _⟩ := e'
 refine ⟨_, cap, by rw [List.length_take, Nat.min_eq_left (by omega)], by rw [List.length_take]; omega, fun _ => ⟨ge, oe, rfl, hg, fun i e hi => hx i e ?_⟩⟩
 rw [List.getElem?_take] at hi
 split at hi
 · exact hi
 · cases hi
theorem ERow.drop {E : Nat} {w : World} {ge oe n cap m : Nat} {l : List En} {ad : Option Addr} (h : ERow E w (.slice (some ⟨ge, oe, none⟩) n cap) l) (hm : m ≤ n) (hm0 : 0 < n) (had : m = n ∨ ad = some ⟨ge, oe + m * 2, none⟩) : ERow E w (.slice ad (n - m) (cap - m)) (l.drop m) := by
 have hn : n = l.length := by obtain ⟨_, _, e, _⟩ := h; simp only [Value.slice.injEq] at e; exact e.2.1
 obtain ⟨g', o', e', hg, hc, hx⟩ := h.at hm0
 simp only [Option.some.injEq, Addr.mk.injEq] at e'
 obtain ⟨rfl, rfl, _⟩ := e'
 refine ⟨ad, cap - m, by rw [List.length_drop, hn], by rw [List.length_drop]; omega, fun h0 => ?_⟩
 rw [List.length_drop] at h0
 refine ⟨ge, oe + m * 2, had.resolve_left (by omega), hg, fun i e hi => ?_⟩
 rw [List.getElem?_drop] at hi
 have := hx (m + i) e hi
 rwa [Nat.add_mul, ← Nat.add_assoc] at this
end Go.Proofs.YtncnefpkfbngaaaGreatDoor

/- Cut: what the seat's translation lacks is left out. -/
/- fst.firstFault. -/
namespace Go.Proofs.YtncnefpkfbngaaaGreatDoor
open Go.RowKit Nums Pm
set_option maxRecDepth 100000

theorem drop_at (l : List Pr) (k : Nat) (x : Pr) (h : l[k]? = some x) : l.drop k = x :: l.drop (k + 1) := by
 obtain ⟨hk, rfl⟩ := List.getElem?_eq_some_iff.1 h
 exact List.drop_eq_getElem_cons hk
theorem PRow.form {w : World} {v : Value} {l : List Pr} (h : PRow w v l) : ∃ ad cap, v = .slice ad l.length cap := by
 obtain ⟨ad, cap, e, _⟩ := h; exact ⟨ad, cap, e⟩
def prevOk : Option Pr → Pr → Bool
 | none, _ => true
 | some p, x => lessB p.1 x.1
/-- What is wrong with a pair. -/
def oneF (p : Option Pr) (x : Pr) : Int := if wordB x.1.data.toList = false then 71 else if x.2 < 1 ∨ 1048576 < x.2 then 72 else if prevOk p x = false then 73 else 0
def faultF (p : Option Pr) : List Pr → Int
 | [] => 0
 | x :: r => if oneF p x = 0 then faultF (some x) r else oneF p x
def prevAt (l : List Pr) : Nat → Option Pr
 | 0 => none
 | k + 1 => l[k]?
theorem one_ok {p : Option Pr} {x : Pr} (hw : wordB x.1.data.toList = true) (h1 : ¬ x.2 < 1) (h2 : ¬ 1048576 < x.2) (h : prevOk p x = true) : oneF p x = 0 := by simp [oneF, h, hw, h1, h2]
/-- Strings that can be. -/
def Sm (l : List Pr) : Prop := ∀ x ∈ l, x.1.size ≤ 9223372036854775807
theorem Sm.at {l : List Pr} (h : Sm l) {k : Nat} {x : Pr} (hx : l[k]? = some x) : x.1.size ≤ 9223372036854775807 := h x (List.mem_of_getElem? hx)

end Go.Proofs.YtncnefpkfbngaaaGreatDoor

/- Cut: what the seat's translation lacks is left out. -/
/- fst.entries: words as runes. -/
namespace Go.Proofs.YtncnefpkfbngaaaGreatDoor
open Go.RowKit Nums Fm
set_option maxRecDepth 100000

def entOf (x : Pr) : En := ((rs x.1.data.toList).getD [], x.2)
def ents (l : List Pr) : List En := l.map entOf
theorem Made.runes {B : Nat} {w : World} {v : Value} {xs : List Int} (h : Made B w v xs) : RunesAt w.heap.size w v xs := by
 obtain ⟨hl, ⟨e, h0⟩ | ⟨g, cap, cur, rfl, h1, hh, h3, h4, h5, h6⟩⟩ := h
 · exact ⟨none, 0, by rw [e, h0], fun h => by omega⟩
 · refine ⟨_, cap, rfl, fun _ => ⟨g, 0, rfl, (Array.getElem?_eq_some_iff.1 hh).1, fun i x hi => ?_⟩⟩
   have e : (xs.map (Value.int .i32))[i]? = some (.int .i32 x) := by rw [List.getElem?_map, hi]; rfl
   rw [← h6, List.getElem?_take] at e
   split at e
   · simp only [World.cell?, hh, Nat.zero_add]
     simpa using e
   · cases e
/-- Runes lie in another block than structs of a type T. -/
theorem Made.kept {B : Nat} {w w' : World} {v u : Value} {xs : List Int} {T : TypeId} {k B' : Nat} {xss : List (List Value)} (h : Made B w v xs) (ho : GOwn T k B' w u xss) (hT : T ≠ 21) (hg : w.grownBy w' u.ownBlock) : Made B w' v xs := by
 refine World.ownsRow.kept h hg ?_
 by_cases e : v.ownBlock = none
 · exact .inl e
 · refine .inr fun e2 => ?_
   obtain ⟨g, hgv⟩ := Option.ne_none_iff_exists'.1 e
   obtain ⟨_, cur, h1⟩ := ho.block (e2.symm.trans hgv)
   obtain ⟨_, ⟨ev, _⟩ | ⟨g', cap, cur', rfl, _, h2, _⟩⟩ := h
   · rw [ev] at hgv; cases hgv
   · simp only [Value.ownBlock, Option.some.injEq] at hgv
     subst hgv
     rw [h1] at h2
     simp only [Option.some.injEq, Obj.cells.injEq] at h2
     exact hT h2.2.1
theorem Made.shape {B : Nat} {w : World} {v : Value} {xs : List Int} (h : Made B w v xs) : ∃ ad cap, v = .slice ad xs.length cap := by
 obtain ⟨hl, ⟨e, h0⟩ | ⟨g, cap, cur, rfl, _⟩⟩ := h
 · exact ⟨none, 0, by rw [e, h0]⟩
 · exact ⟨_, cap, rfl⟩
theorem ents_snoc {l : List Pr} {k : Nat} {x : Pr} (h : l[k]? = some x) : ents (l.take (k + 1)) = ents (l.take k) ++ [entOf x] := by
 rw [List.take_add_one, h]
 simp [ents]
theorem ents_len (l : List Pr) : (ents l).length = l.length := by simp [ents]
/-- Words as they can be. -/
def Wd (l : List Pr) : Prop := ∀ x ∈ l, ∃ xs, rs x.1.data.toList = some xs ∧ xs.length ≤ 24 ∧ x.1.size ≤ 96

end Go.Proofs.YtncnefpkfbngaaaGreatDoor

/- fst.Build. -/
namespace Go.Proofs.YtncnefpkfbngaaaGreatDoor
open Go.RowKit Nums Fm
set_option maxRecDepth 100000

/-- What Build says is wrong. -/
def buildE (l : List Pr) : Int := if 4096 < l.length then 70 else faultF none l
/-- The machine. -/
def machOf (l : List Pr) : Int × List St := if buildE l = 0 ∧ l ≠ [] then (least (ents l), (stF 25 [] (ents l)).1) else (0, [])
/-- States in memory. -/
def StRow (B : Nat) (w : World) (vs : Value) (b : List St) : Prop := ∃ xss, GOwn 88 3 B w vs xss ∧ xss.length = b.length ∧ ∀ (i : Nat) (s : St), b[i]? = some s → ∃ va, xss[i]? = some [.bool s.final, .int .i64 s.out, va] ∧ AOwn B w va s.arcs
theorem StRow.nil (B : Nat) (w : World) : StRow B w (.slice none 0 0) [] := ⟨[], GOwn.nil _ _ _ _, rfl, fun i s hi => by simp at hi⟩
theorem StRow.below {B : Nat} {w w' : World} {vs : Value} {b : List St} (h : StRow B w vs b) (hb : Below w.heap.size w w') : StRow B w' vs b := by
 obtain ⟨xss, h1, h2, h3⟩ := h
 refine ⟨xss, h1.below hb, h2, fun i s hi => ?_⟩
 obtain ⟨va, h4, h5⟩ := h3 i s hi
 exact ⟨va, h4, GOwn.below h5 hb⟩
theorem StRow.mono {B B' : Nat} {w : World} {vs : Value} {b : List St} (h : StRow B w vs b) (hb : B' ≤ B) : StRow B' w vs b := by
 obtain ⟨xss, h1, h2, h3⟩ := h
 refine ⟨xss, h1.mono hb, h2, fun i s hi => ?_⟩
 obtain ⟨va, h4, h5⟩ := h3 i s hi
 exact ⟨va, h4, GOwn.mono h5 hb⟩
theorem fault_all : ∀ (l : List Pr) (p : Option Pr), faultF p l = 0 → ∀ x ∈ l, wordB x.1.data.toList = true ∧ 1 ≤ x.2 ∧ x.2 ≤ 1048576
 | [], _, _, x, hx => by cases hx
 | y :: r, p, h, x, hx => by
  rw [faultF] at h
  by_cases h0 : oneF p y = 0
  · rw [if_pos h0] at h
    rcases List.mem_cons.1 hx with rfl | hx
    · unfold oneF at h0
      split at h0
      · cases h0
      · split at h0
        · cases h0
        · rename_i h1 h2
          exact ⟨by simpa using h1, by omega, by omega⟩
    · exact fault_all r _ h x hx
  · rw [if_neg h0] at h; exact absurd h h0
theorem fault_rise : ∀ (l : List Pr) (p : Option Pr), faultF p l = 0 → (∀ q, p = some q → ∀ x ∈ l, lessB q.1 x.1 = true) ∧ l.Pairwise (fun a b => lessB a.1 b.1 = true)
 | [], _, _ => ⟨fun q _ x hx => (by cases hx), List.Pairwise.nil⟩
 | y :: r, p, h => by
  rw [faultF] at h
  by_cases h0 : oneF p y = 0
  · rw [if_pos h0] at h
    obtain ⟨h1, h2⟩ := fault_rise r (some y) h
    have hp : prevOk p y = true := by
     unfold oneF at h0
     split at h0
     · cases h0
     · split at h0
       · cases h0
       · split at h0
         · cases h0
         · rename_i h; simpa using h
    refine ⟨fun q hq x hx => ?_, List.pairwise_cons.2 ⟨fun x hx => h1 y rfl x hx, h2⟩⟩
    subst hq
    rcases List.mem_cons.1 hx with rfl | hx
    · exact hp
    · exact lessB_sto.tr _ _ _ hp (h1 y rfl x hx)
  · rw [if_neg h0] at h; exact absurd h h0
theorem word_runes {x : Pr} (h : wordB x.1.data.toList = true) : ∃ xs, rs x.1.data.toList = some xs ∧ 1 ≤ xs.length ∧ xs.length ≤ 24 ∧ x.1.size ≤ 96 ∧ xs.all isR = true := by
 have hw := h
 unfold wordB at h
 cases hr : rs x.1.data.toList with
 | none => rw [hr] at h; cases h
 | some xs =>
  rw [hr] at h
  simp only [Bool.and_eq_true, decide_eq_true_eq] at h
  have h1 := (rs_len hr).1
  rw [size_length] at h1
  exact ⟨xs, rfl, h.1.1, h.1.2, by omega, (rs_write hr).1⟩
/-- What a dictionary's entries are. -/
structure DictOk (l : List Pr) : Prop where
 wd : Wd l
 en : EnOk (ents l)
 rise : Rise (ents l)
 len : l.length ≤ 4096
 pos : ∀ e ∈ ents l, e.1 ≠ []
theorem dict_ok {l : List Pr} (h : buildE l = 0) : DictOk l := by
 unfold buildE at h
 split at h
 · cases h
 · rename_i hl
   have ha := fault_all l none h
   have hR := (fault_rise l none h).2
   have hent : ∀ e ∈ ents l, ∃ x ∈ l, ∃ xs, rs x.1.data.toList = some xs ∧ e = (xs, x.2) ∧ 1 ≤ xs.length ∧ xs.length ≤ 24 ∧ xs.all isR = true := fun e he => by
    obtain ⟨x, hx, rfl⟩ := List.mem_map.1 he
    obtain ⟨xs, h1, h2, h3, _, h4⟩ := word_runes (ha x hx).1
    exact ⟨x, hx, xs, h1, by rw [entOf, h1]; rfl, h2, h3, h4⟩
   refine ⟨fun x hx => ?_, ⟨fun e he => ?_, fun e he c hc => ?_, fun e he => ?_⟩, ?_, by omega, fun e he => ?_⟩
   · obtain ⟨xs, h1, h2, h3, h4, _⟩ := word_runes (ha x hx).1
     exact ⟨xs, h1, h3, h4⟩
   · obtain ⟨x, hx, rfl⟩ := List.mem_map.1 he
     exact (ha x hx).2
   · obtain ⟨x, hx, xs, h1, rfl, h2, h3, h4⟩ := hent e he
     have := of_decide_eq_true (List.all_eq_true.1 h4 c hc)
     constructor <;> omega
   · obtain ⟨x, hx, xs, h1, rfl, h2, h3, h4⟩ := hent e he
     exact h3
   · unfold Rise ents
     rw [List.pairwise_map]
     refine List.Pairwise.imp_of_mem ?_ hR
     intro a b ha' hb' hab
     obtain ⟨xs, h1, _⟩ := word_runes (ha a ha').1
     obtain ⟨ys, h2, _⟩ := word_runes (ha b hb').1
     rw [entOf, entOf, h1, h2]
     show lexL xs ys = true
     rw [← order_rs h1 h2, ← less_lex]
     exact hab
   · obtain ⟨x, hx, xs, h1, rfl, h2, h3, h4⟩ := hent e he
     exact List.length_pos_iff.1 (show 0 < xs.length by omega)
theorem bulk_le {l : List En} (h : ∀ e ∈ l, e.1.length ≤ 24) : bulk l ≤ l.length * 25 := by
 induction l with
 | nil => simp [bulk]
 | cons e r ih =>
  have h1 := h e (by simp)
  have h2 := ih fun x hx => h x (by simp [hx])
  rw [bulk_cons, List.length_cons]
  omega
/-- What Build says. -/
structure BuildSays (w w' : World) (l : List Pr) (base : Int) (vs : Value) (b : List St) : Prop where
 bel : Below w.heap.size w w'
 row : StRow w.heap.size w' vs b
 mach : machOf l = (base, b)
end Go.Proofs.YtncnefpkfbngaaaGreatDoor

/- The least that a state or its arcs add is 0; machines of dictionaries. -/
namespace Go.Proofs.YtncnefpkfbngaaaGreatDoor
open Nums Fm

namespace Fm
theorem state_level {D : List (List En)} {b : List St} (h : Inv D b) {i : Nat} {s : St} (hi : b[i]? = some s) : (s.final = true → 0 ≤ s.out) ∧ (∀ a ∈ s.arcs, 0 ≤ a.out) ∧ ((s.final = true ∧ s.out = 0) ∨ ∃ a ∈ s.arcs, a.out = 0) := by
 obtain ⟨e1, _, c⟩ := h.row i s hi
 obtain ⟨hne, hl⟩ := h.lv _ (List.mem_of_getElem? e1)
 have hall : ∀ e ∈ exp D s, 0 ≤ e.2 := fun e he => by rw [← hl]; exact least_all he
 have hmem : ∀ a ∈ s.arcs, ∀ x ∈ D[a.to]?.getD [], pre a.label (x.1, x.2 + a.out) ∈ exp D s := fun a ha x hx => by
  refine List.mem_append_right _ (List.mem_flatMap.2 ⟨_, List.mem_map.2 ⟨a, ha, rfl⟩, List.mem_map.2 ⟨(x.1, x.2 + a.out), ?_, rfl⟩⟩)
  exact List.mem_map.2 ⟨x, hx, rfl⟩
 have hout : ∀ a ∈ s.arcs, 0 ≤ a.out := fun a ha => by
  have hv := h.lv _ (List.getElem_mem (c.to a ha))
  obtain ⟨x, hx, h0⟩ := least_mem hv.1
  have := hall _ (hmem a ha x (by rw [List.getElem?_eq_getElem (c.to a ha)]; exact hx))
  simp only [pre] at this
  omega
 refine ⟨fun hf => hall ([], s.out) (List.mem_append_left _ (by simp [fins, hf])), hout, ?_⟩
 obtain ⟨e, he, h0⟩ := least_mem hne
 rw [hl] at h0
 rcases List.mem_append.1 he with he | he
 · unfold fins at he
   split at he
   · rename_i hf
     rw [List.mem_singleton.1 he] at h0
     exact .inl ⟨hf, h0⟩
   · cases he
 · obtain ⟨p, hp, h2⟩ := List.mem_flatMap.1 he
   obtain ⟨a, ha, rfl⟩ := List.mem_map.1 hp
   obtain ⟨y, hy, rfl⟩ := List.mem_map.1 h2
   obtain ⟨x, hx, rfl⟩ := List.mem_map.1 hy
   rw [List.getElem?_eq_getElem (c.to a ha), Option.getD_some] at hx
   have hv := h.lv _ (List.getElem_mem (c.to a ha))
   have h1 := least_all hx
   rw [hv.2] at h1
   have h2 := hout a ha
   simp only [pre] at h0
   exact .inr ⟨a, ha, by omega⟩
end Fm
theorem ents_ne {l : List Pr} (h : l ≠ []) : ents l ≠ [] := by simp [ents, h]
theorem dict_good {l : List Pr} (h : buildE l = 0) (hl : l ≠ []) : Fm.Good 25 (ents l) := by
 have hd := dict_ok h
 exact ⟨ents_ne hl, hd.rise, fun e he => by have := hd.en.ln e he; omega⟩
end Go.Proofs.YtncnefpkfbngaaaGreatDoor
