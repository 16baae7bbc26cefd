/- Texts that were written apart, joined. -/
import Derived.Test.YtncnefpkfbngaaaGreatDoorGe
import Derived.Test.YtncnefpkfbngaaaGreatDoorPBase
/- The stable sort of matches by their words: plain mathematics (tpl6's, at matches). -/
namespace Go.Proofs.YtncnefpkfbngaaaGreatDoor.Mq
open Go.Sort Pm

section
variable {κ : Type} {less : κ → κ → Bool}
/-- The words rise. -/
def Up (less : κ → κ → Bool) (l : List (κ × (Int × Int))) : Prop := l.Pairwise fun x y => less y.1 x.1 = false
/-- The words rise strictly. -/
def SUp (less : κ → κ → Bool) (l : List (κ × (Int × Int))) : Prop := l.Pairwise fun x y => less x.1 y.1 = true
theorem SUp.up (o : STO less) {l : List (κ × (Int × Int))} (h : SUp less l) : Up less l := h.imp fun h => o.asymm h
/-- Where the last of the one row is not behind the first of the other none is. -/
theorem up_le (o : STO less) {L R : List (κ × (Int × Int))} {x y : κ × (Int × Int)} (hL : Up less (L ++ [x])) (hR : Up less (y :: R)) (h : less y.1 x.1 = false) : ∀ u ∈ L ++ [x], ∀ v ∈ y :: R, less v.1 u.1 = false := by
 obtain ⟨_, _, pL⟩ := List.pairwise_append.1 hL
 obtain ⟨pR, _⟩ := List.pairwise_cons.1 hR
 have hux : ∀ u ∈ L ++ [x], less y.1 u.1 = false := fun u hu => by
  rcases List.mem_append.1 hu with a | a
  · exact o.ntr (pL u a x (List.mem_singleton.2 rfl)) h
  · rw [List.mem_singleton.1 a]; exact h
 intro u hu v hv
 rcases List.mem_cons.1 hv with rfl | b
 · exact hux u hu
 · exact o.ntr (hux u hu) (pR v b)
theorem up_lt (o : STO less) {L R : List (κ × (Int × Int))} {x y : κ × (Int × Int)} (hR : Up less (R ++ [y])) (hL : Up less (x :: L)) (h : less y.1 x.1 = true) : ∀ u ∈ R ++ [y], ∀ v ∈ x :: L, less u.1 v.1 = true := by
 obtain ⟨_, _, pR⟩ := List.pairwise_append.1 hR
 obtain ⟨pL, _⟩ := List.pairwise_cons.1 hL
 have hux : ∀ u ∈ R ++ [y], less u.1 x.1 = true := fun u hu => by
  rcases List.mem_append.1 hu with a | a
  · have h1 := pR u a y (List.mem_singleton.2 rfl)
    cases e : less u.1 x.1 with
    | true => rfl
    | false => have := o.ntr e h1; rw [h] at this; cases this
  · rw [List.mem_singleton.1 a]; exact h
 intro u hu v hv
 rcases List.mem_cons.1 hv with rfl | b
 · exact hux u hu
 · have h1 := pL v b
   have h2 := hux u hu
   cases e : less u.1 v.1 with
   | true => rfl
   | false => have := o.ntr h1 e; rw [h2] at this; cases this
/-- One pair is ahead of another one. -/
def plt (less : κ → κ → Bool) (x y : κ × (Int × Int)) : Bool := less x.1 y.1
theorem plt_swo (o : STO less) : SWO (plt less) := ⟨fun _ => o.irr _, fun _ _ _ h1 h2 => o.tr _ _ _ h1 h2, fun _ _ _ h1 h2 => o.ntr h2 h1⟩
end
variable {κ : Type} [DecidableEq κ] {less : κ → κ → Bool}
/-- The pairs of one word, in their order. -/
def of (k : κ) (l : List (κ × (Int × Int))) : List (κ × (Int × Int)) := l.filter fun x => decide (x.1 = k)
theorem of_append (k : κ) (a b : List (κ × (Int × Int))) : of k (a ++ b) = of k a ++ of k b := List.filter_append ..
theorem of_cons_same (x : κ × (Int × Int)) (l : List (κ × (Int × Int))) : of x.1 (x :: l) = x :: of x.1 l := by simp [of]
theorem of_cons_ne {k : κ} {x : κ × (Int × Int)} (h : x.1 ≠ k) (l : List (κ × (Int × Int))) : of k (x :: l) = of k l := by simp [of, h]
/-- A list that is in order, in which the pairs of each word stand as in l. -/
def Stably (less : κ → κ → Bool) (l l' : List (κ × (Int × Int))) : Prop := Up less l' ∧ ∀ k, of k l' = of k l
theorem Stably.self {l : List (κ × (Int × Int))} (h : Up less l) : Stably less l l := ⟨h, fun _ => rfl⟩
theorem Stably.trans {a b c : List (κ × (Int × Int))} (h1 : ∀ k, of k b = of k a) (h2 : Stably less b c) : Stably less a c := ⟨h2.1, fun k => (h2.2 k).trans (h1 k)⟩
theorem of_mem {k : κ} {l : List (κ × (Int × Int))} {x : κ × (Int × Int)} : x ∈ of k l ↔ x ∈ l ∧ x.1 = k := by simp [of]
theorem mem_of_same {a b : List (κ × (Int × Int))} (h : ∀ k, of k b = of k a) {x : κ × (Int × Int)} (hx : x ∈ b) : x ∈ a := by
 have : x ∈ of x.1 b := of_mem.2 ⟨hx, rfl⟩
 rw [h] at this
 exact (of_mem.1 this).1
theorem of_len (a : List (κ × (Int × Int))) : ∀ b : List (κ × (Int × Int)), (∀ k, of k b = of k a) → b.length = a.length := by
 induction a with
 | nil =>
  intro b h
  cases b with
  | nil => rfl
  | cons x r => have := h x.1; rw [of_cons_same] at this; cases this
 | cons y a ih =>
  intro b h
  have hy : y ∈ b := by
   have : y ∈ of y.1 b := by rw [h, of_cons_same]; exact List.mem_cons_self ..
   exact (of_mem.1 this).1
  -- the first pair of y's word in b is y: take it out
  have key : ∀ b : List (κ × (Int × Int)), of y.1 b = y :: of y.1 a → ∃ p q, b = p ++ y :: q ∧ of y.1 p = [] ∧ of y.1 q = of y.1 a := by
   intro b
   induction b with
   | nil => intro h; cases h
   | cons z r ih2 =>
    intro h
    by_cases hz : z.1 = y.1
    · rw [← hz, of_cons_same, hz] at h
      simp only [List.cons.injEq] at h
      obtain ⟨rfl, h2⟩ := h
      exact ⟨[], r, rfl, rfl, h2⟩
    · rw [of_cons_ne hz] at h
      obtain ⟨p, q, rfl, h1, h2⟩ := ih2 h
      exact ⟨z :: p, q, rfl, by rw [of_cons_ne hz]; exact h1, h2⟩
  obtain ⟨p, q, rfl, h1, h2⟩ := key b (by rw [h, of_cons_same])
  have hpq : ∀ k, of k (p ++ q) = of k a := fun k => by
   by_cases hk : y.1 = k
   · subst hk; rw [of_append, h1, h2]; rfl
   · have := h k
     rw [of_append, of_cons_ne hk, of_cons_ne hk] at this
     rw [of_append]; exact this
  have := ih (p ++ q) hpq
  simp at this ⊢
  omega
theorem Stably.len {a b : List (κ × (Int × Int))} (h : Stably less a b) : b.length = a.length := of_len a b h.2
/-- Rows of which every word of the one is ahead of every word of the other may change places. -/
theorem of_comm (o : STO less) {x y : List (κ × (Int × Int))} (h : ∀ u ∈ x, ∀ v ∈ y, less u.1 v.1 = true) (k : κ) : of k (x ++ y) = of k (y ++ x) := by
 rw [of_append, of_append]
 cases e : of k x with
 | nil => simp
 | cons u r =>
  have hu : u ∈ of k x := by rw [e]; exact List.mem_cons_self ..
  have e2 : of k y = [] := by
   cases e3 : of k y with
   | nil => rfl
   | cons v s =>
    have hv : v ∈ of k y := by rw [e3]; exact List.mem_cons_self ..
    obtain ⟨u1, u2⟩ := of_mem.1 hu
    obtain ⟨v1, v2⟩ := of_mem.1 hv
    have := h u u1 v v1
    rw [u2, v2, o.irr] at this
    cases this
  rw [e2]; simp
/-- The merge of two halves: what is left of the middle, and what is right of it. -/
theorem Stably.join {a b c d : List (κ × (Int × Int))} (h1 : Stably less a c) (h2 : Stably less b d) (h : ∀ x ∈ a, ∀ y ∈ b, less y.1 x.1 = false) : Stably less (a ++ b) (c ++ d) := by
 refine ⟨List.pairwise_append.2 ⟨h1.1, h2.1, fun x hx y hy => h x (mem_of_same h1.2 hx) y (mem_of_same h2.2 hy)⟩, fun k => ?_⟩
 rw [of_append, of_append, h1.2, h2.2]
/-- One pair laid into a row that is in order, from its left. -/
theorem insert_left (o : STO less) {x : κ × (Int × Int)} {a b : List (κ × (Int × Int))} (hup : Up less (a ++ b)) (h1 : ∀ u ∈ a, less u.1 x.1 = true) (h2 : ∀ u ∈ b, less u.1 x.1 = false) : Stably less (x :: (a ++ b)) (a ++ x :: b) := by
 obtain ⟨p1, p2, p3⟩ := List.pairwise_append.1 hup
 refine ⟨List.pairwise_append.2 ⟨p1, List.pairwise_cons.2 ⟨h2, p2⟩, fun u hu v hv => ?_⟩, fun k => ?_⟩
 · rcases List.mem_cons.1 hv with rfl | hv
   · exact o.asymm (h1 u hu)
   · exact p3 u hu v hv
 · have := of_comm o (x := a) (y := [x]) (fun u hu v hv => by rw [List.mem_singleton.1 hv]; exact h1 u hu) k
   rw [show a ++ x :: b = (a ++ [x]) ++ b by simp, show x :: (a ++ b) = ([x] ++ a) ++ b by simp, of_append, this, ← of_append]
/-- One pair laid into a row that is in order, from its right. -/
theorem insert_right (o : STO less) {y : κ × (Int × Int)} {a b : List (κ × (Int × Int))} (hup : Up less (a ++ b)) (h1 : ∀ u ∈ a, less y.1 u.1 = false) (h2 : ∀ u ∈ b, less y.1 u.1 = true) : Stably less (a ++ b ++ [y]) (a ++ y :: b) := by
 obtain ⟨p1, p2, p3⟩ := List.pairwise_append.1 hup
 refine ⟨List.pairwise_append.2 ⟨p1, List.pairwise_cons.2 ⟨fun u hu => o.asymm (h2 u hu), p2⟩, fun u hu v hv => ?_⟩, fun k => ?_⟩
 · rcases List.mem_cons.1 hv with rfl | hv
   · exact h1 u hu
   · exact p3 u hu v hv
 · have := of_comm o (x := [y]) (y := b) (fun u hu v hv => by rw [List.mem_singleton.1 hu]; exact h2 v hv) k
   rw [show a ++ y :: b = a ++ ([y] ++ b) by simp, show a ++ b ++ [y] = a ++ (b ++ [y]) by simp, of_append, this, ← of_append]
/-- The turn in the middle: L1 L2 R1 R2 becomes L1 R1 and L2 R2, and each is merged. -/
theorem turned (o : STO less) {L1 L2 R1 R2 X Y : List (κ × (Int × Int))} (hL : Up less (L1 ++ L2)) (hR : Up less (R1 ++ R2)) (h1 : ∀ u ∈ L1, ∀ v ∈ R2, less v.1 u.1 = false) (h2 : ∀ u ∈ R1, ∀ v ∈ L2, less u.1 v.1 = true)
 (hX : Stably less (L1 ++ R1) X) (hY : Stably less (L2 ++ R2) Y) : Stably less (L1 ++ L2 ++ (R1 ++ R2)) (X ++ Y) := by
 refine Stably.trans (b := L1 ++ R1 ++ (L2 ++ R2)) (fun k => ?_) (hX.join hY fun x hx y hy => ?_)
 · have := of_comm o h2 k
   simp only [of_append, List.append_assoc] at this ⊢
   rw [← List.append_assoc (of k R1), this, List.append_assoc]
 · obtain ⟨_, _, pL⟩ := List.pairwise_append.1 hL
   obtain ⟨_, _, pR⟩ := List.pairwise_append.1 hR
   rcases List.mem_append.1 hx with a | a <;> rcases List.mem_append.1 hy with b | b
   · exact pL x a y b
   · exact h1 x a y b
   · exact o.asymm (h2 x a y b)
   · exact pR x a y b
variable [Inhabited κ]
theorem insInner_of (o : STO less) (a : Nat) : ∀ (j : Nat) (d : Array (κ × (Int × Int))), j < d.size → (insInner (plt less) a j d).size = d.size ∧ ∀ k, of k (insInner (plt less) a j d).toList = of k d.toList
 | 0, d, _ => ⟨rfl, fun _ => rfl⟩
 | j + 1, d, hj => by
  unfold insInner
  split
  · next h =>
    obtain ⟨l⟩ := d
    have hj' : j + 1 < l.length := by simpa using hj
    obtain ⟨P, x, T, e, hl⟩ := cut_one l j (by omega)
    have hT : T ≠ [] := fun h => by rw [e, h] at hj'; simp at hj'; omega
    cases T with
    | nil => exact absurd rfl hT
    | cons y S =>
     subst e
     subst hl
     have g1 : (P ++ x :: y :: S).toArray[P.length + 1]! = y := by simp
     have g2 : (P ++ x :: y :: S).toArray[P.length]! = x := by simp
     have hlt : less y.1 x.1 = true := by
      simp only [Bool.and_eq_true, decide_eq_true_eq] at h
      have := h.2
      rw [g1, g2] at this
      exact this
     rw [swp_adj]
     obtain ⟨i1, i2⟩ := insInner_of o a P.length (P ++ y :: x :: S).toArray (by simp)
     refine ⟨by rw [i1]; simp, fun k => ?_⟩
     rw [i2]
     have := of_comm o (x := [y]) (y := [x]) (fun u hu v hv => by rw [List.mem_singleton.1 hu, List.mem_singleton.1 hv]; exact hlt) k
     show of k (P ++ ([y, x] ++ S)) = of k (P ++ ([x, y] ++ S))
     rw [of_append, of_append k [y, x], of_append, of_append k [x, y]]
     rw [show [y, x] = [y] ++ [x] from rfl, show [x, y] = [x] ++ [y] from rfl, this]
  · exact ⟨rfl, fun _ => rfl⟩
theorem insOuter_of (o : STO less) (a b : Nat) : ∀ (n i : Nat) (d : Array (κ × (Int × Int))), b - i = n → b ≤ d.size → ∀ k, of k (insOuter (plt less) a b i d).toList = of k d.toList
 | 0, i, d, h, _, k => by rw [insOuter, if_neg (by omega)]
 | n + 1, i, d, h, hb, k => by
  obtain ⟨i1, i2⟩ := insInner_of o a i d (by omega)
  rw [insOuter, if_pos (by omega), insOuter_of o a b n (i + 1) _ (by omega) (by rw [i1]; exact hb), i2]
theorem ins_list (o : STO less) (A X B : List (κ × (Int × Int))) : ∃ X', insertionSort (plt less) (A ++ (X ++ B)).toArray A.length (A.length + X.length) = (A ++ (X' ++ B)).toArray ∧ Stably less X X' := by
 obtain ⟨⟨h1, h2, _⟩, h3⟩ := insertionSort_holds (lt := plt less) (plt_swo o) (A ++ (X ++ B)).toArray A.length (A.length + X.length) (by omega) (by simp)
 have hof := insOuter_of o A.length (A.length + X.length) _ (A.length + 1) (A ++ (X ++ B)).toArray rfl (by simp)
 change ∀ k, of k (insertionSort (plt less) (A ++ (X ++ B)).toArray A.length (A.length + X.length)).toList = _ at hof
 generalize insertionSort (plt less) (A ++ (X ++ B)).toArray A.length (A.length + X.length) = d at h1 h2 h3 hof ⊢
 obtain ⟨l⟩ := d
 have hl : l.length = A.length + (X.length + B.length) := by simpa using h1
 obtain ⟨A', r, rfl, hA⟩ := cut_at l A.length (by omega)
 have hr : r.length = X.length + B.length := by simp at hl; omega
 obtain ⟨X', B', rfl, hX⟩ := cut_at r X.length (by omega)
 have hB : B'.length = B.length := by simp at hr; omega
 have eA : A' = A := by
  refine List.ext_getElem hA fun i p q => ?_
  have := h2 i (.inl q)
  simpa [List.getElem?_append_left p, List.getElem?_append_left q, p, q] using this
 have eB : B' = B := by
  refine List.ext_getElem hB fun i p q => ?_
  have := h2 (A.length + X.length + i) (.inr (by omega))
  rw [eA] at this
  simpa [List.getElem?_append_right, hX, Nat.add_assoc, p, q] using this
 subst eA
 subst eB
 refine ⟨X', rfl, ?_, fun k => ?_⟩
 · refine List.pairwise_iff_getElem.2 fun i j hi hj hij => ?_
   have := h3 (A'.length + i) (A'.length + j) (by omega) (by omega) (by omega)
   simpa [plt, List.getElem?_append_right, List.getElem?_append_left hi, List.getElem?_append_left hj, hi, hj] using this
 · have := hof k
   simp only [of_append, List.append_cancel_left_eq, List.append_cancel_right_eq] at this
   exact this
end Go.Proofs.YtncnefpkfbngaaaGreatDoor.Mq

/- Matches in memory for the stable sort (tpl6's PBase at matches). -/
namespace Go.Proofs.YtncnefpkfbngaaaGreatDoor
namespace Mq
open Go.RowKit Go.Shelf Go.Lib Go.Sort Pm
set_option maxRecDepth 100000

/-- A word, a weight, a distance. -/
abbrev Pr := ByteArray × (Int × Int)
def encP (x : Pr) : List Value := [.string x.1, .int .i64 x.2.1, .int .i64 x.2.2]
def valP (x : Pr) : Value := .agg #[.string x.1, .int .i64 x.2.1, .int .i64 x.2.2]
/-- What byWord tells. -/
def cfP (x y : Pr) : Int := if lessB x.1 y.1 then -1 else if lessB y.1 x.1 then 1 else 0
theorem cfP_lt (x y : Pr) : ltOf cfP x y = plt lessB x y := by
 unfold ltOf cfP plt
 cases lessB x.1 y.1 <;> cases lessB y.1 x.1 <;> rfl
theorem cfP_ltf : ltOf cfP = plt lessB := funext fun x => funext fun y => cfP_lt x y
set_option maxHeartbeats 1000000 in
theorem inOrder_any (a b : ByteArray) (w : World) : Calls Tryz.prog 19 #[.string a, .string b] w fun e w' => e = .returned (.int .i64 (if lessB a b then -1 else if lessB b a then 1 else 0)) ∧ w' = w := by
 have h1 := fun W' => pless_any a b W'
 have h2 := fun W' => pless_any b a W'
 have HC : Hid ((if lessB a b then (-1 : Int) else if lessB b a then 1 else 0) = if lessB a b then -1 else if lessB b a then 1 else 0) := rfl
 generalize lessB a b = b1 at h1 HC ⊢
 generalize lessB b a = b2 at h2 HC ⊢
 cases b1
 · cases b2
   all_goals
    go_enter Tryz.func19, Tryz.ntmps19
    go_wp2_with (first | (go_at_call 40; refine (h1 _).mono ?_; rintro e w' ⟨rfl, rfl⟩) | (go_at_call 40; refine (h2 _).mono ?_; rintro e w' ⟨rfl, rfl⟩))
    go_ret
    exact ⟨rfl, rfl⟩
 · go_enter Tryz.func19, Tryz.ntmps19
   go_wp2_with (go_at_call 40; refine (h1 _).mono ?_; rintro e w' ⟨rfl, rfl⟩)
   go_ret
   exact ⟨rfl, rfl⟩
set_option maxHeartbeats 1000000 in
theorem byWord_any (x y : Pr) (W : World) : Calls Tryz.prog 18 #[.agg #[.string x.1, .int .i64 x.2.1, .int .i64 x.2.2], .agg #[.string y.1, .int .i64 y.2.1, .int .i64 y.2.2]] W fun e w' => e = .returned (.int .i64 (cfP x y)) ∧ ∃ q os', w' = grow (W.drewN q) os' := by
 have h1 := fun W' => inOrder_any x.1 y.1 W'
 have HC : Hid (cfP x y = if lessB x.1 y.1 then -1 else if lessB y.1 x.1 then 1 else 0) := rfl
 generalize (if lessB x.1 y.1 then (-1 : Int) else if lessB y.1 x.1 then 1 else 0) = c at h1 HC
 go_enter Tryz.func18, Tryz.ntmps18
 go_wp2_with (go_at_call 19; refine (h1 _).mono ?_; rintro e w' ⟨rfl, rfl⟩)
 go_ret
 exact ⟨by rw [HC.out]; rfl, 0, _, by rw [alloc_eq_grow, alloc_eq_grow, grow_grow]; rfl⟩
theorem byWord_lays (blk off size : Nat) (w : World) : CmpLays Tryz.prog 18 #[] encP 3 cfP blk off size w :=
 fun _ _ _ _ x y => byWord_any x y _

/-! A pair loaded and stored whole. -/
def loadP (P : Program) (x : Value) (w : World) : Result Value := (Instr.loadAt 44 x).run P w
def storeP (P : Program) (x y : Value) (w : World) : Result Unit := (Instr.storeAt 44 x y).run P w
section
variable (ρ : Operand → Value) (x y : Operand) (dst : Option Tmp) (ty : TypeId) (pos : String) (af : Array Edge) (g : Option (Nat × Bool)) (w : World)
theorem exec_load_P : (execOp ρ ⟨dst, .load 44 x, ty, pos, af, g⟩).run Tryz.prog w = (loadP Tryz.prog (ρ x) w).andThen (fun v w' => .ok (.value v) w') := by
 simp only [execOp, Sem.run_bind, loadP, Sem.run_pure]
theorem exec_store_P : (execOp ρ ⟨dst, .store 44 x y, ty, pos, af, g⟩).run Tryz.prog w = (storeP Tryz.prog (ρ x) (ρ y) w).andThen (fun _ w' => .ok .skip w') := by
 simp only [execOp, Sem.run_bind, storeP, Sem.run_pure]
end
theorem loadP_at {w : World} {b o : Nat} {x : Pr} (h0 : w.cell? ⟨b, o, none⟩ = some (.string x.1)) (h1 : w.cell? ⟨b, o + 1, none⟩ = some (.int .i64 x.2.1)) (h2 : w.cell? ⟨b, o + 2, none⟩ = some (.int .i64 x.2.2)) : loadP Tryz.prog (.pointer (some ⟨b, o, none⟩)) w = .ok (valP x) w := by
 unfold loadP valP
 simp [go_sem, h0, h1, h2]
 try rfl
theorem storeP_at {w : World} {b o : Nat} {x : Pr} {u v z : Value} (h0 : w.cell? ⟨b, o, none⟩ = some u) (h1 : w.cell? ⟨b, o + 1, none⟩ = some v) (h2 : w.cell? ⟨b, o + 2, none⟩ = some z) (f0 : w.frozen? ⟨b, o, none⟩ = false) (f1 : w.frozen? ⟨b, o + 1, none⟩ = false) (f2 : w.frozen? ⟨b, o + 2, none⟩ = false) : storeP Tryz.prog (.pointer (some ⟨b, o, none⟩)) (valP x) w = .ok () (w.setCells b o (encP x)) := by
 unfold storeP valP
 simp [go_sem, h0, h1, h2, f0, f1, f2, encP, World.setCells]
 try rfl
theorem cellP0 {w : World} {blk off : Nat} {d : Array Pr} (h : HoldsK encP 3 w blk off d) {i : Nat} (hi : i < d.size) : w.cell? ⟨blk, off + i * 3, none⟩ = some (.string d[i]!.1) ∧ w.frozen? ⟨blk, off + i * 3, none⟩ = false := h.cell (c := 0) hi (by omega)
theorem cellP1 {w : World} {blk off : Nat} {d : Array Pr} (h : HoldsK encP 3 w blk off d) {i : Nat} (hi : i < d.size) : w.cell? ⟨blk, off + i * 3 + 1, none⟩ = some (.int .i64 d[i]!.2.1) ∧ w.frozen? ⟨blk, off + i * 3 + 1, none⟩ = false := h.cell (c := 1) hi (by omega)
theorem cellP2 {w : World} {blk off : Nat} {d : Array Pr} (h : HoldsK encP 3 w blk off d) {i : Nat} (hi : i < d.size) : w.cell? ⟨blk, off + i * 3 + 2, none⟩ = some (.int .i64 d[i]!.2.2) ∧ w.frozen? ⟨blk, off + i * 3 + 2, none⟩ = false := h.cell (c := 2) hi (by omega)
theorem encP_k (x : Pr) : (encP x).length = 3 := rfl
theorem encP_one (x : Pr) : ∀ v ∈ encP x, v.oneCell' = true := by intro v hv; simp [encP] at hv; rcases hv with rfl | rfl | rfl <;> rfl
/-- What the sort is told of its row, once. -/
structure RowP (w0 : World) (blk off n : Nat) : Prop where
 ex : ∃ d0 : Array Pr, d0.size = n ∧ RowK encP 3 w0 blk off d0
 big : n < 4611686018427387904
section
variable {w0 W : World} {blk off n : Nat} {d : Array Pr}
theorem RowP.holds (R : RowP w0 blk off n) (S : SWK encP 3 w0 blk off d W) (hs : d.size = n) : HoldsK encP 3 W blk off d := by
 obtain ⟨⟨d0, e, K⟩, _⟩ := R
 exact S.holds K.hblk K.hH (by omega)
theorem RowP.load (R : RowP w0 blk off n) (S : SWK encP 3 w0 blk off d W) (hs : d.size = n) (i : Nat) (hi : i < n) : loadP Tryz.prog (.pointer (some ⟨blk, off + i * 3, none⟩)) W = .ok (valP d[i]!) W := by
 have H := R.holds S hs
 exact loadP_at (cellP0 H (by omega)).1 (cellP1 H (by omega)).1 (cellP2 H (by omega)).1
theorem RowP.ld (R : RowP w0 blk off n) (S : SWK encP 3 w0 blk off d W) (hs : d.size = n) (i : Nat) (hi : i < n) (q : Nat) (os : Array Obj) : loadP Tryz.prog (.pointer (some ⟨blk, off + i * 3, none⟩)) (grow (W.drewN q) os) = .ok (valP d[i]!) (grow (W.drewN q) os) := R.load (S.grown q os) hs i hi
theorem RowP.ld1 (R : RowP w0 blk off n) (S : SWK encP 3 w0 blk off d W) (hs : d.size = n) (i : Nat) (hi : i < n) : loadP Tryz.prog (.pointer (some ⟨blk, off + i * 3, none⟩)) W.drew = .ok (valP d[i]!) W.drew := R.load S.drew hs i hi
theorem RowP.st1 (R : RowP w0 blk off n) (S : SWK encP 3 w0 blk off d W) (hs : d.size = n) (i : Nat) (hi : i < n) (y : Pr) : storeP Tryz.prog (.pointer (some ⟨blk, off + i * 3, none⟩)) (valP y) W.drew = .ok () (W.drew.setCells blk (off + i * 3) (encP y)) := by
 have H := R.holds S.drew hs
 exact storeP_at (cellP0 H (by omega)).1 (cellP1 H (by omega)).1 (cellP2 H (by omega)).1 (cellP0 H (by omega)).2 (cellP1 H (by omega)).2 (cellP2 H (by omega)).2
theorem RowP.st2 (R : RowP w0 blk off n) (S : SWK encP 3 w0 blk off d W) (hs : d.size = n) (i j : Nat) (hi : i < n) (hj : j < n) (y x : Pr) :
 storeP Tryz.prog (.pointer (some ⟨blk, off + j * 3, none⟩)) (valP x) (W.drew.setCells blk (off + i * 3) (encP y)) = .ok () ((W.drew.setCells blk (off + i * 3) (encP y)).setCells blk (off + j * 3) (encP x)) := by
 have H := holds_setCells_c (R.holds S.drew hs) (i * 3) (encP y) (by rw [encP_k, size_flatK]; omega)
 have c0 := H (j * 3) (by rw [size_setMany, size_flatK]; omega)
 have c1 := H (j * 3 + 1) (by rw [size_setMany, size_flatK]; omega)
 have c2 := H (j * 3 + 2) (by rw [size_setMany, size_flatK]; omega)
 exact storeP_at c0.1 (by rw [Nat.add_assoc]; exact c1.1) (by rw [Nat.add_assoc]; exact c2.1) c0.2 (by rw [Nat.add_assoc]; exact c1.2) (by rw [Nat.add_assoc]; exact c2.2)
theorem RowP.swapped (R : RowP w0 blk off n) (S : SWK encP 3 w0 blk off d W) (hs : d.size = n) (i j : Nat) (hi : i < n) (hj : j < n) :
 SWK encP 3 w0 blk off (swp d i j) ((W.drew.setCells blk (off + i * 3) (encP d[j]!)).setCells blk (off + j * 3) (encP d[i]!)) := by
 obtain ⟨⟨d0, e, K⟩, _⟩ := R
 exact S.swapped K i j (by omega) (by omega)
theorem RowP.cmp (S : SWK encP 3 w0 blk off d W) (x y : Pr) (q : Nat) (os : Array Obj) :
 Calls Tryz.prog 18 #[valP x, valP y] (grow (W.drewN q) os) fun e w' => e = .returned (.int .i64 (cfP x y)) ∧ ∃ q' os', w' = grow ((grow (W.drewN q) os).drewN q') os' := S.cmp (byWord_lays blk off d.size w0) rfl x y q os
end
end Mq
end Go.Proofs.YtncnefpkfbngaaaGreatDoor

/- Stable sorting of matches has one answer; the reference's put is an insertion that is stable. -/
namespace Go.Proofs.YtncnefpkfbngaaaGreatDoor
open Pm
set_option maxRecDepth 100000
namespace Mg
theorem drop_snoc {α : Type} {l : List α} {k : Nat} {x : α} (h : l[k]? = some x) : l.drop k = x :: l.drop (k + 1) := by
 obtain ⟨h1, rfl⟩ := List.getElem?_eq_some_iff.1 h
 exact List.drop_eq_getElem_cons h1
theorem take_snoc {α : Type} {l : List α} {k : Nat} {x : α} (h : l[k]? = some x) : l.take (k + 1) = l.take k ++ [x] := by rw [List.take_add_one, h]; rfl
section
variable {κ : Type} {less : κ → κ → Bool}
/-- One more, behind those of the same word. -/
def ins (less : κ → κ → Bool) (m : κ × (Int × Int)) : List (κ × (Int × Int)) → List (κ × (Int × Int))
 | [] => [m]
 | x :: r => if less m.1 x.1 then m :: x :: r else x :: ins less m r
theorem ins_mem {m x : κ × (Int × Int)} : ∀ {l : List (κ × (Int × Int))}, x ∈ ins less m l → x = m ∨ x ∈ l
 | [], h => by simpa [ins] using h
 | y :: r, h => by
  unfold ins at h
  split at h
  · simpa using h
  · rcases List.mem_cons.1 h with e | e
    · exact .inr (by simp [e])
    · rcases ins_mem e with e | e
      · exact .inl e
      · exact .inr (by simp [e])
theorem ins_len (m : κ × (Int × Int)) : ∀ l : List (κ × (Int × Int)), (ins less m l).length = l.length + 1
 | [] => rfl
 | y :: r => by
  unfold ins
  split
  · rfl
  · rw [List.length_cons, ins_len m r, List.length_cons]
theorem ins_up (o : STO less) (m : κ × (Int × Int)) : ∀ {l : List (κ × (Int × Int))}, Mq.Up less l → Mq.Up less (ins less m l)
 | [], _ => List.pairwise_singleton _ _
 | y :: r, h => by
  obtain ⟨h1, h2⟩ := List.pairwise_cons.1 h
  unfold ins
  split
  · rename_i hm
    refine List.pairwise_cons.2 ⟨fun z hz => ?_, h⟩
    rcases List.mem_cons.1 hz with e | e
    · rw [e]; exact o.asymm hm
    · exact o.ntr (o.asymm hm) (h1 z e)
  · rename_i hm
    refine List.pairwise_cons.2 ⟨fun z hz => ?_, ins_up o m h2⟩
    rcases ins_mem hz with e | e
    · rw [e]; exact Bool.eq_false_iff.2 hm
    · exact h1 z e
/-- All, one behind the other. -/
def insAll (less : κ → κ → Bool) (l : List (κ × (Int × Int))) : List (κ × (Int × Int)) := l.foldl (fun a m => ins less m a) []
theorem insAll_snoc (l : List (κ × (Int × Int))) (m : κ × (Int × Int)) : insAll less (l ++ [m]) = ins less m (insAll less l) := by simp [insAll]
theorem insF_len : ∀ (l a : List (κ × (Int × Int))), (l.foldl (fun a m => ins less m a) a).length = a.length + l.length
 | [], a => by simp
 | x :: r, a => by rw [List.foldl_cons, insF_len r, ins_len, List.length_cons]; omega
theorem insAll_len (l : List (κ × (Int × Int))) : (insAll less l).length = l.length := by
 have := insF_len (less := less) l []
 rw [List.length_nil, Nat.zero_add] at this
 exact this
theorem insAll_up (o : STO less) (l : List (κ × (Int × Int))) : Mq.Up less (insAll less l) := by
 suffices H : ∀ (l a : List (κ × (Int × Int))), Mq.Up less a → Mq.Up less (l.foldl (fun a m => ins less m a) a) from H l [] List.Pairwise.nil
 intro l
 induction l with
 | nil => exact fun a h => h
 | cons x r ih => exact fun a h => ih _ (ins_up o x h)
/-- How the reference's loop goes: it has gone through acc, r is left. -/
def insP (less : κ → κ → Bool) (m : κ × (Int × Int)) (done : Bool) (r : List (κ × (Int × Int))) : List (κ × (Int × Int)) := if done then r else ins less m r
theorem insP_step (m x : κ × (Int × Int)) (done : Bool) (acc r : List (κ × (Int × Int))) :
 acc ++ insP less m done (x :: r) = (acc ++ (if !done && less m.1 x.1 then [m] else []) ++ [x]) ++ insP less m (done || less m.1 x.1) r := by
 unfold insP
 cases done <;> simp [ins]
 cases less m.1 x.1 <;> simp
end
section
variable {κ : Type} [DecidableEq κ] {less : κ → κ → Bool}
/-- Two lists that rise and have the same of each word are one. -/
theorem stab_uniq (o : STO less) : ∀ {a b : List (κ × (Int × Int))}, Mq.Up less a → Mq.Up less b → (∀ k, Mq.of k a = Mq.of k b) → a = b
 | [], b, _, _, h => by
  have := Mq.of_len b [] h
  exact (List.eq_nil_of_length_eq_zero (by simpa using this.symm)).symm
 | x :: r, [], _, _, h => by
  have := Mq.of_len [] (x :: r) h
  simp at this
 | x :: r, y :: s, ha, hb, h => by
  have hx : x ∈ y :: s := Mq.mem_of_same (a := y :: s) (b := x :: r) h (by simp)
  have hy : y ∈ x :: r := Mq.mem_of_same (a := x :: r) (b := y :: s) (fun k => (h k).symm) (by simp)
  have h1 : less y.1 x.1 = false := by
   rcases List.mem_cons.1 hy with e | e
   · rw [e]; exact o.irr _
   · exact (List.pairwise_cons.1 ha).1 y e
  have h2 : less x.1 y.1 = false := by
   rcases List.mem_cons.1 hx with e | e
   · rw [e]; exact o.irr _
   · exact (List.pairwise_cons.1 hb).1 x e
  have he : x.1 = y.1 := o.tot _ _ h2 h1
  have h3 := h x.1
  rw [Mq.of_cons_same, he, Mq.of_cons_same, List.cons.injEq] at h3
  obtain ⟨rfl, _⟩ := h3
  rw [stab_uniq o (List.pairwise_cons.1 ha).2 (List.pairwise_cons.1 hb).2 fun k => by
   have := h k
   by_cases e : x.1 = k
   · subst e
     rw [Mq.of_cons_same, Mq.of_cons_same, List.cons.injEq] at this
     exact this.2
   · rwa [Mq.of_cons_ne e, Mq.of_cons_ne e] at this]
theorem stably_one (o : STO less) {l a b : List (κ × (Int × Int))} (h1 : Mq.Stably less l a) (h2 : Mq.Stably less l b) : a = b :=
 stab_uniq o h1.1 h2.1 fun k => (h1.2 k).trans (h2.2 k).symm
theorem ins_of (o : STO less) (m : κ × (Int × Int)) (k : κ) : ∀ {l : List (κ × (Int × Int))}, Mq.Up less l → Mq.of k (ins less m l) = Mq.of k (l ++ [m])
 | [], _ => rfl
 | y :: r, h => by
  obtain ⟨h1, h2⟩ := List.pairwise_cons.1 h
  unfold ins
  split
  · rename_i hm
    rw [show m :: y :: r = [m] ++ (y :: r) from rfl]
    refine Mq.of_comm o (fun u hu v hv => ?_) k
    rw [List.mem_singleton.1 hu]
    rcases List.mem_cons.1 hv with e | e
    · rw [e]; exact hm
    · cases hc : less m.1 v.1 with
      | true => rfl
      | false =>
       have := o.ntr (h1 v e) hc
       rw [this] at hm
       cases hm
  · by_cases e : y.1 = k
    · subst e
      rw [Mq.of_cons_same, List.cons_append, Mq.of_cons_same, ins_of o m _ h2]
    · rw [Mq.of_cons_ne e, List.cons_append, Mq.of_cons_ne e, ins_of o m _ h2]
theorem insAll_ok (o : STO less) (l : List (κ × (Int × Int))) : Mq.Stably less l (insAll less l) := by
 refine ⟨insAll_up o l, fun k => ?_⟩
 suffices H : ∀ (l a : List (κ × (Int × Int))), Mq.Up less a → Mq.of k (l.foldl (fun a m => ins less m a) a) = Mq.of k (a ++ l) by simpa [insAll] using H l [] List.Pairwise.nil
 intro l
 induction l with
 | nil => intro a _; simp
 | cons x r ih =>
  intro a h
  rw [List.foldl_cons, ih _ (ins_up o x h), Mq.of_append, ins_of o x k h, ← Mq.of_append, List.append_assoc]
  rfl
theorem insAll_same (o : STO less) {l : List (κ × (Int × Int))} (h : Mq.Up less l) : insAll less l = l := stably_one o (insAll_ok o l) (Mq.Stably.self h)
theorem insAll_mem (o : STO less) {l : List (κ × (Int × Int))} {x : κ × (Int × Int)} (h : x ∈ insAll less l) : x ∈ l := Mq.mem_of_same (insAll_ok o l).2 h
end
end Mg
end Go.Proofs.YtncnefpkfbngaaaGreatDoor
