/- What may have changed; rows of structs into which is stored. -/
import Derived.Test.YtoiikmfdoadkpaaGRows
import Derived.Test.YtoiikmfdoadkpaaDrawnE
namespace Go.Proofs.Ytoiikmfdoadkpaa
open Go.RowKit Go.Lib
set_option maxRecDepth 100000
namespace Se
theorem two_below (w : World) (o o' : Obj) : Below w.heap.size w ((w.alloc o).alloc o') := ((Below.refl _ w).alloc (Nat.le_refl _) o).alloc (by simp) o'
/-- Only blocks of F have changed, and new ones. -/
structure Upd (F : Nat → Prop) (w w' : World) : Prop where
  os : w'.os = w.os
  tape : w'.tape = w.tape
  output : w'.output = w.output
  size : w.heap.size ≤ w'.heap.size
  block : ∀ k, k < w.heap.size → ¬ F k → w'.heap[k]? = w.heap[k]?
theorem Upd.refl (F : Nat → Prop) (w : World) : Upd F w w := ⟨rfl, rfl, rfl, Nat.le_refl _, fun _ _ _ => rfl⟩
theorem Upd.trans {F G : Nat → Prop} {a b c : World} (h1 : Upd F a b) (h2 : Upd G b c) (hG : ∀ k, k < a.heap.size → G k → F k) : Upd F a c :=
  ⟨h2.os.trans h1.os, h2.tape.trans h1.tape, h2.output.trans h1.output, Nat.le_trans h1.size h2.size, fun k hk hF => (h2.block k (Nat.lt_of_lt_of_le hk h1.size) (fun g => hF (hG k hk g))).trans (h1.block k hk hF)⟩
theorem Upd.mono {F G : Nat → Prop} {a b : World} (h : Upd F a b) (hG : ∀ k, F k → G k) : Upd G a b := ⟨h.os, h.tape, h.output, h.size, fun k hk hF => h.block k hk (fun f => hF (hG k f))⟩
theorem Upd.below {F : Nat → Prop} {w w' : World} (h : Upd F w w') {B : Nat} (hF : ∀ k, F k → B ≤ k) (hB : B ≤ w.heap.size) : Below B w w' :=
  ⟨h.os, h.tape, h.output, h.size, fun k hk => h.block k (by omega) (fun f => by have := hF k f; omega)⟩
theorem upd_of_below {F : Nat → Prop} {w w' : World} (h : Below w.heap.size w w') : Upd F w w' := ⟨h.os, h.tape, h.output, h.size, fun k hk _ => h.block k hk⟩
theorem Upd.drew {F : Nat → Prop} {w w' : World} (h : Upd F w w') : Upd F w w'.drew := ⟨h.os, h.tape, h.output, h.size, h.block⟩
theorem Upd.setCell {F : Nat → Prop} {w w' : World} (h : Upd F w w') {a : Addr} (ha : F a.block) (u : Value) : Upd F w (w'.setCell a u) :=
  h.trans (G := F) ⟨rfl, rfl, rfl, by simp [World.setCell], fun k _ hk => Below.heap_setCell _ _ _ _ (fun e => hk (e ▸ ha))⟩ (fun _ _ h => h)
theorem Upd.setCells {F : Nat → Prop} {w : World} {g : Nat} (hg : F g) : ∀ (vs : List Value) (o : Nat) {w' : World}, Upd F w w' → Upd F w (w'.setCells g o vs)
  | [], _, _, h => h
  | v :: r, o, _, h => Upd.setCells hg r (o + 1) (h.setCell (a := ⟨g, o, none⟩) hg v)
theorem Upd.grown {F : Nat → Prop} {w w' w'' : World} {row : Option Nat} (h : Upd F w w') (hg : w'.grownBy w'' row) (hr : ∀ k, k < w.heap.size → row = some k → F k) : Upd F w w'' :=
  h.trans (G := fun k => row = some k) ⟨hg.os, hg.tape, hg.output, hg.size, fun k hk hk2 => hg.block k hk (fun e => hk2 e.symm)⟩ hr
/-- A struct is stored in a row. -/
def setM : List Value → Nat → List Value → List Value
  | xs, _, [] => xs
  | xs, o, v :: r => setM (xs.set o v) (o + 1) r
theorem owns_setCells {base g n cap size : Nat} {e : TypeId} : ∀ (vs : List Value) (o : Nat) (w : World) (xs : List Value), w.ownsRow base e size (.slice (some ⟨g, 0, none⟩) n cap) n xs → (w.setCells g o vs).ownsRow base e size (.slice (some ⟨g, 0, none⟩) n cap) n (setM xs o vs)
  | [], _, _, _, h => h
  | v :: r, o, _, _, h => owns_setCells r (o + 1) _ _ (h.stored o v).1
theorem setM_front (A : List Value) : ∀ (x y R : List Value), x.length = y.length → setM (A ++ (y ++ R)) A.length x = A ++ (x ++ R)
  | [], [], _, _ => rfl
  | v :: r, u :: s, R, h => by
    have := setM_front (A ++ [v]) r s R (by simpa using h)
    rw [setM]
    simp only [List.length_append, List.length_cons, List.length_nil, Nat.zero_add, List.append_assoc, List.singleton_append] at this
    rw [show (A ++ (u :: s ++ R)).set A.length v = A ++ v :: (s ++ R) by simp, this]
    rfl
termination_by x => x.length
theorem setM_flat {k : Nat} (A : List Value) : ∀ (xss : List (List Value)) (i : Nat) (x : List Value), (∀ y ∈ xss, y.length = k) → x.length = k → i < xss.length → setM (A ++ xss.flatten) (A.length + i * k) x = A ++ (xss.set i x).flatten
  | y :: r, 0, x, hk, hx, _ => by
    rw [Nat.zero_mul, Nat.add_zero, List.flatten_cons, setM_front A x y _ (by rw [hx, hk y (by simp)])]
    simp
  | y :: r, i + 1, x, hk, hx, hi => by
    have := setM_flat (A ++ y) r i x (fun z hz => hk z (by simp [hz])) hx (by simpa using hi)
    rw [List.length_append, hk y (by simp)] at this
    rw [List.flatten_cons, ← List.append_assoc, show A.length + (i + 1) * k = A.length + k + i * k by rw [Nat.add_mul]; omega, this]
    simp
theorem GOwn.put {T : TypeId} {k B g n cap : Nat} {w : World} {xss : List (List Value)} (h : GOwn T k B w (.slice (some ⟨g, 0, none⟩) n cap) xss) (hn : n = xss.length) (i : Nat) (hi : i < xss.length) (x : List Value) (hx : Cells k x) : GOwn T k B (w.setCells g (i * k) x) (.slice (some ⟨g, 0, none⟩) n cap) (xss.set i x) := by
  subst hn
  refine ⟨fun y hy => ?_, ?_⟩
  · rcases List.mem_or_eq_of_mem_set hy with hy | rfl
    · exact h.1 y hy
    · exact hx
  · have h1 := owns_setCells x (i * k) w _ h.2
    have h2 := setM_flat (k := k) [] xss i x (fun y hy => (h.1 y hy).1) hx.1 hi
    simp only [List.nil_append, List.length_nil, Nat.zero_add] at h2
    rw [h2] at h1
    rw [List.length_set]
    exact h1
theorem GOwn.upd {T : TypeId} {k B : Nat} {w w' : World} {v : Value} {xss : List (List Value)} {F : Nat → Prop} (h : GOwn T k B w v xss) (u : Upd F w w') (hF : ∀ g, v.ownBlock = some g → ¬ F g) : GOwn T k B w' v xss :=
  h.same fun g hg => u.block g (h.lt hg) (hF g hg)
end Se
end Go.Proofs.Ytoiikmfdoadkpaa
