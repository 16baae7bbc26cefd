/- Matches in memory; which of two is ahead: best.Better, the reference's. -/
import Derived.Test.YtmpfcdffpjocnaaGRows
import Derived.Test.YtmpfcdffpjocnaaBtSort
import Derived.Test.YtmpfcdffpjocnaaAhead
import Derived.Test.YtmpfcdffpjocnaaDrawn6
import Derived.Test.YtmpfcdffpjocnaaDrawnE
import Derived.Deep.QuietTactic
import Derived.BigQuiet
import Derived.Laws.StructEq
import Derived.Below
import Derived.Carry
namespace Go.Proofs.Ytmpfcdffpjocnaa
open Go.RowKit Go.Lib Nums Pm
set_option maxRecDepth 100000
namespace Bt
def cellsM (m : Mt) : List Value := [.string m.1, .int .i64 m.2.1, .int .i64 m.2.2]
def valM (m : Mt) : Value := .agg #[.string m.1, .int .i64 m.2.1, .int .i64 m.2.2]
theorem rtyM : RTy 23 27 3 32 := ⟨by kernel_rfl, ⟨.agg #[.string .empty, .int .i64 0, .int .i64 0], by kernel_rfl, rfl⟩, by decide, by decide⟩
theorem rtyMp : RTy 23 42 3 32 := ⟨by kernel_rfl, ⟨.agg #[.string .empty, .int .i64 0, .int .i64 0], by kernel_rfl, rfl⟩, by decide, by decide⟩
theorem cellsM_ok (m : Mt) : Cells 3 (cellsM m) := ⟨rfl, by intro u hu; simp [cellsM] at hu; rcases hu with rfl | rfl | rfl <;> rfl⟩
theorem belowN {B : Nat} {a w : World} (h : Below B a w) (n : Nat) : Below B a (w.drewN n) := ⟨h.os, h.tape, h.output, h.size, h.block⟩
theorem two_below (w : World) (o o' : Obj) : Below w.heap.size w ((w.alloc o).alloc o') := ((Below.refl _ w).alloc (Nat.le_refl _) o).alloc (by simp) o'
/-- A match's words are no longer than a text can be. -/
def SmM (m : Mt) : Prop := m.1.size ≤ 9223372036854775807
theorem btr_dist {a b : Mt} (h : ¬ a.2.2 = b.2.2) : btr a b = decide (a.2.2 < b.2.2) := by unfold btr; rw [if_neg h]
theorem btr_weight {a b : Mt} (h : a.2.2 = b.2.2) (h2 : ¬ a.2.1 = b.2.1) : btr a b = decide (b.2.1 < a.2.1) := by unfold btr; rw [if_pos h, if_neg h2]
theorem btr_word {a b : Mt} (h : a.2.2 = b.2.2) (h2 : a.2.1 = b.2.1) : btr a b = lessB a.1 b.1 := by unfold btr; rw [if_pos h, if_pos h2]
set_option maxHeartbeats 1000000 in
theorem Better_any (a b : Mt) (w : World) : Calls Try.prog 11 #[valM a, valM b] w fun e w' => e = .returned (.bool (btr a b)) ∧ Below w.heap.size w w' := by
  have HL := fun W => pless_any a.1 b.1 W
  have HC : Hid (btr a b = if a.2.2 = b.2.2 then (if a.2.1 = b.2.1 then lessB a.1 b.1 else decide (b.2.1 < a.2.1)) else decide (a.2.2 < b.2.2)) := rfl
  by_cases h1 : a.2.2 = b.2.2
  · have hn1 : (a.2.2 != b.2.2) = false := by simpa using h1
    by_cases h2 : a.2.1 = b.2.1
    · have hn2 : (a.2.1 != b.2.1) = false := by simpa using h2
      rw [if_pos h1, if_pos h2] at HC
      clear h1 h2
      unfold valM
      go_enter Try.func11, Try.ntmps11
      go_wp2_with (go_at_call 21; refine (HL _).mono ?_; rintro e w' ⟨rfl, rfl⟩)
      go_ret
      exact ⟨by rw [HC.out]; rfl, two_below _ _ _⟩
    · have hn2 : (a.2.1 != b.2.1) = true := by simpa using h2
      rw [if_pos h1, if_neg h2] at HC
      clear h1 h2
      unfold valM
      go_enter Try.func11, Try.ntmps11
      go_wp2
      go_ret
      exact ⟨by rw [HC.out]; rfl, two_below _ _ _⟩
  · have hn1 : (a.2.2 != b.2.2) = true := by simpa using h1
    rw [if_neg h1] at HC
    clear h1
    unfold valM
    go_enter Try.func11, Try.ntmps11
    go_wp2
    go_ret
    exact ⟨by rw [HC.out]; rfl, two_below _ _ _⟩
set_option maxHeartbeats 1000000 in
theorem refBetter_any (a b : Mt) (w : World) (ha : SmM a) (hb : SmM b) : Calls Try.prog 12 #[valM a, valM b] w fun e w' => e = .returned (.bool (btr a b)) ∧ Below w.heap.size w w' := by
  have HL := fun W => ahead_any a.1 b.1 W ha hb
  have HC : Hid (btr a b = if a.2.2 = b.2.2 then (if a.2.1 = b.2.1 then lessB a.1 b.1 else decide (b.2.1 < a.2.1)) else decide (a.2.2 < b.2.2)) := rfl
  clear ha hb
  by_cases h1 : a.2.2 = b.2.2
  · have hn1 : (a.2.2 != b.2.2) = false := by simpa using h1
    by_cases h2 : a.2.1 = b.2.1
    · have hn2 : (a.2.1 != b.2.1) = false := by simpa using h2
      rw [if_pos h1, if_pos h2] at HC
      clear h1 h2
      unfold valM
      go_enter Try.func12, Try.ntmps12
      go_wp2_with (go_at_call 22; refine (HL _).mono ?_; rintro e w' ⟨rfl, q, rfl⟩)
      go_ret
      exact ⟨by rw [HC.out]; rfl, belowN (two_below _ _ _) _⟩
    · have hn2 : (a.2.1 != b.2.1) = true := by simpa using h2
      rw [if_pos h1, if_neg h2] at HC
      clear h1 h2
      unfold valM
      go_enter Try.func12, Try.ntmps12
      go_wp2
      go_ret
      exact ⟨by rw [HC.out]; rfl, two_below _ _ _⟩
  · have hn1 : (a.2.2 != b.2.2) = true := by simpa using h1
    rw [if_neg h1] at HC
    clear h1
    unfold valM
    go_enter Try.func12, Try.ntmps12
    go_wp2
    go_ret
    exact ⟨by rw [HC.out]; rfl, two_below _ _ _⟩
/-- A match loaded and stored whole. -/
def loadM (P : Program) (x : Value) (w : World) : Result Value := (Instr.loadAt 23 x).run P w
def storeM (P : Program) (x y : Value) (w : World) : Result Unit := (Instr.storeAt 23 x y).run P w
section
variable (ρ : Operand → Value) (x y : Operand) (dst : Option Tmp) (ty : TypeId) (pos : String) (af : Array Edge) (g : Option (Nat × Bool)) (w : World)
theorem exec_load_M : (execOp ρ ⟨dst, .load 23 x, ty, pos, af, g⟩).run Try.prog w = (loadM Try.prog (ρ x) w).andThen (fun v w' => .ok (.value v) w') := by
  simp only [execOp, Sem.run_bind, loadM, Sem.run_pure]
theorem exec_store_M : (execOp ρ ⟨dst, .store 23 x y, ty, pos, af, g⟩).run Try.prog w = (storeM Try.prog (ρ x) (ρ y) w).andThen (fun _ w' => .ok .skip w') := by
  simp only [execOp, Sem.run_bind, storeM, Sem.run_pure]
end
theorem loadM_at {w : World} {b o : Nat} {x : Mt} (h0 : w.cell? ⟨b, o, none⟩ = some (.string x.1)) (h1 : w.cell? ⟨b, o + 1, none⟩ = some (.int .i64 x.2.1)) (h2 : w.cell? ⟨b, o + 2, none⟩ = some (.int .i64 x.2.2)) : loadM Try.prog (.pointer (some ⟨b, o, none⟩)) w = .ok (valM x) w := by
  unfold loadM valM
  simp [go_sem, h0, h1, h2]
  try rfl
theorem storeM_at {w : World} {b o : Nat} {x : Mt} {u v z : Value} (h0 : w.cell? ⟨b, o, none⟩ = some u) (h1 : w.cell? ⟨b, o + 1, none⟩ = some v) (h2 : w.cell? ⟨b, o + 2, none⟩ = some z) (f0 : w.frozen? ⟨b, o, none⟩ = false) (f1 : w.frozen? ⟨b, o + 1, none⟩ = false) (f2 : w.frozen? ⟨b, o + 2, none⟩ = false) : storeM Try.prog (.pointer (some ⟨b, o, none⟩)) (valM x) w = .ok () (w.setCells b o (cellsM x)) := by
  unfold storeM valM
  simp [go_sem, h0, h1, h2, f0, f1, f2, cellsM, World.setCells]
  try rfl
/-- Only blocks of F have changed, and new ones. -/
structure Upd (F : Nat → Prop) (w w' : World) : Prop where
  os : w'.os = w.os
  tape : w'.tape = w.tape
  output : w'.output = w.output
  size : w.heap.size ≤ w'.heap.size
  block : ∀ k, k < w.heap.size → ¬ F k → w'.heap[k]? = w.heap[k]?
theorem Upd.refl (F : Nat → Prop) (w : World) : Upd F w w := ⟨rfl, rfl, rfl, Nat.le_refl _, fun _ _ _ => rfl⟩
theorem Upd.trans {F G : Nat → Prop} {a b c : World} (h1 : Upd F a b) (h2 : Upd G b c) (hG : ∀ k, k < a.heap.size → G k → F k) : Upd F a c :=
  ⟨h2.os.trans h1.os, h2.tape.trans h1.tape, h2.output.trans h1.output, Nat.le_trans h1.size h2.size, fun k hk hF => (h2.block k (Nat.lt_of_lt_of_le hk h1.size) (fun g => hF (hG k hk g))).trans (h1.block k hk hF)⟩
theorem Upd.mono {F G : Nat → Prop} {a b : World} (h : Upd F a b) (hG : ∀ k, F k → G k) : Upd G a b := ⟨h.os, h.tape, h.output, h.size, fun k hk hF => h.block k hk (fun f => hF (hG k f))⟩
theorem Upd.below {F : Nat → Prop} {w w' : World} (h : Upd F w w') {B : Nat} (hF : ∀ k, F k → B ≤ k) (hB : B ≤ w.heap.size) : Below B w w' :=
  ⟨h.os, h.tape, h.output, h.size, fun k hk => h.block k (by omega) (fun f => by have := hF k f; omega)⟩
theorem upd_of_below {F : Nat → Prop} {w w' : World} (h : Below w.heap.size w w') : Upd F w w' := ⟨h.os, h.tape, h.output, h.size, fun k hk _ => h.block k hk⟩
theorem Upd.drew {F : Nat → Prop} {w w' : World} (h : Upd F w w') : Upd F w w'.drew := ⟨h.os, h.tape, h.output, h.size, h.block⟩
theorem Upd.setCell {F : Nat → Prop} {w w' : World} (h : Upd F w w') {a : Addr} (ha : F a.block) (u : Value) : Upd F w (w'.setCell a u) :=
  h.trans (G := F) ⟨rfl, rfl, rfl, by simp [World.setCell], fun k _ hk => Below.heap_setCell _ _ _ _ (fun e => hk (e ▸ ha))⟩ (fun _ _ h => h)
theorem Upd.setCells {F : Nat → Prop} {w : World} {g : Nat} (hg : F g) : ∀ (vs : List Value) (o : Nat) {w' : World}, Upd F w w' → Upd F w (w'.setCells g o vs)
  | [], _, _, h => h
  | v :: r, o, _, h => Upd.setCells hg r (o + 1) (h.setCell (a := ⟨g, o, none⟩) hg v)
theorem Upd.grown {F : Nat → Prop} {w w' w'' : World} {row : Option Nat} (h : Upd F w w') (hg : w'.grownBy w'' row) (hr : ∀ k, k < w.heap.size → row = some k → F k) : Upd F w w'' :=
  h.trans (G := fun k => row = some k) ⟨hg.os, hg.tape, hg.output, hg.size, fun k hk hk2 => hg.block k hk (fun e => hk2 e.symm)⟩ hr
/-- A struct is stored in a row. -/
def setM : List Value → Nat → List Value → List Value
  | xs, _, [] => xs
  | xs, o, v :: r => setM (xs.set o v) (o + 1) r
theorem owns_setCells {base g n cap size : Nat} {e : TypeId} : ∀ (vs : List Value) (o : Nat) (w : World) (xs : List Value), w.ownsRow base e size (.slice (some ⟨g, 0, none⟩) n cap) n xs → (w.setCells g o vs).ownsRow base e size (.slice (some ⟨g, 0, none⟩) n cap) n (setM xs o vs)
  | [], _, _, _, h => h
  | v :: r, o, _, _, h => owns_setCells r (o + 1) _ _ (h.stored o v).1
theorem setM_front (A : List Value) : ∀ (x y R : List Value), x.length = y.length → setM (A ++ (y ++ R)) A.length x = A ++ (x ++ R)
  | [], [], _, _ => rfl
  | v :: r, u :: s, R, h => by
    have := setM_front (A ++ [v]) r s R (by simpa using h)
    rw [setM]
    simp only [List.length_append, List.length_cons, List.length_nil, Nat.zero_add, List.append_assoc, List.singleton_append] at this
    rw [show (A ++ (u :: s ++ R)).set A.length v = A ++ v :: (s ++ R) by simp, this]
    rfl
termination_by x => x.length
theorem setM_flat {k : Nat} (A : List Value) : ∀ (xss : List (List Value)) (i : Nat) (x : List Value), (∀ y ∈ xss, y.length = k) → x.length = k → i < xss.length → setM (A ++ xss.flatten) (A.length + i * k) x = A ++ (xss.set i x).flatten
  | y :: r, 0, x, hk, hx, _ => by
    rw [Nat.zero_mul, Nat.add_zero, List.flatten_cons, setM_front A x y _ (by rw [hx, hk y (by simp)])]
    simp
  | y :: r, i + 1, x, hk, hx, hi => by
    have := setM_flat (A ++ y) r i x (fun z hz => hk z (by simp [hz])) hx (by simpa using hi)
    rw [List.length_append, hk y (by simp)] at this
    rw [List.flatten_cons, ← List.append_assoc, show A.length + (i + 1) * k = A.length + k + i * k by rw [Nat.add_mul]; omega, this]
    simp
theorem GOwn.put {T : TypeId} {k B g n cap : Nat} {w : World} {xss : List (List Value)} (h : GOwn T k B w (.slice (some ⟨g, 0, none⟩) n cap) xss) (hn : n = xss.length) (i : Nat) (hi : i < xss.length) (x : List Value) (hx : Cells k x) : GOwn T k B (w.setCells g (i * k) x) (.slice (some ⟨g, 0, none⟩) n cap) (xss.set i x) := by
  subst hn
  refine ⟨fun y hy => ?_, ?_⟩
  · rcases List.mem_or_eq_of_mem_set hy with hy | rfl
    · exact h.1 y hy
    · exact hx
  · have h1 := owns_setCells x (i * k) w _ h.2
    have h2 := setM_flat (k := k) [] xss i x (fun y hy => (h.1 y hy).1) hx.1 hi
    simp only [List.nil_append, List.length_nil, Nat.zero_add] at h2
    rw [h2] at h1
    rw [List.length_set]
    exact h1
theorem GOwn.upd {T : TypeId} {k B : Nat} {w w' : World} {v : Value} {xss : List (List Value)} {F : Nat → Prop} (h : GOwn T k B w v xss) (u : Upd F w w') (hF : ∀ g, v.ownBlock = some g → ¬ F g) : GOwn T k B w' v xss :=
  h.same fun g hg => u.block g (h.lt hg) (hF g hg)
/-- What a row of matches says of one of them. -/
theorem GOwn.mt {B : Nat} {w : World} {v : Value} {h : List Mt} (H : GOwn 23 3 B w v (h.map cellsM)) (h0 : 0 < h.length) : ∃ g cap, v = .slice (some ⟨g, 0, none⟩) h.length cap ∧ g < w.heap.size ∧ B ≤ g ∧ h.length ≤ cap ∧ ∀ i, i < h.length → w.cell? ⟨g, i * 3, none⟩ = some (.string (el h i).1) ∧ w.cell? ⟨g, i * 3 + 1, none⟩ = some (.int .i64 (el h i).2.1) ∧ w.cell? ⟨g, i * 3 + 2, none⟩ = some (.int .i64 (el h i).2.2) ∧ w.frozen? ⟨g, i * 3, none⟩ = false ∧ w.frozen? ⟨g, i * 3 + 1, none⟩ = false ∧ w.frozen? ⟨g, i * 3 + 2, none⟩ = false := by
  obtain ⟨g, cap, hv, h1, h2, h3, h4⟩ := H.cell (by rw [List.length_map]; exact h0)
  rw [List.length_map] at hv h3
  refine ⟨g, cap, hv, h1, h2, h3, fun i hi => ?_⟩
  have e : (h.map cellsM)[i]? = some (cellsM (el h i)) := by rw [List.getElem?_map, el_get hi]; rfl
  have hf : ∀ j, w.frozen? ⟨g, j, none⟩ = false := fun j => by
    have := H.2
    rw [hv, List.length_map] at this
    exact this.frozenAt j
  exact ⟨h4 i 0 _ _ e rfl, h4 i 1 _ _ e rfl, h4 i 2 _ _ e rfl, hf _, hf _, hf _⟩
theorem map_set (h : List Mt) (i : Nat) (x : Mt) : (h.set i x).map cellsM = (h.map cellsM).set i (cellsM x) := List.map_set ..
theorem mixedB : Try.prog.follows .mixedOrders = true := by kernel_rfl
end Bt
end Go.Proofs.Ytmpfcdffpjocnaa
