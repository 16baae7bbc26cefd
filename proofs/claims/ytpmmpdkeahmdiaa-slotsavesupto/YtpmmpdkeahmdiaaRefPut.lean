/- The reference of the disk: a sector put in its place. -/
import Derived.Test.YtpmmpdkeahmdiaaRefAll
namespace Go.Proofs.Ytpmmpdkeahmdiaa
open Go.RowKit
set_option maxRecDepth 100000

def SecOwn (B : Nat) (w : World) (v : Value) (A : List RX) : Prop := w.ownsRow B 95 4 v A.length (secCells A)
theorem SecOwn.nil (B : Nat) (w : World) : SecOwn B w (.slice none 0 0) [] := World.ownsRow_nil _ _ _ _
theorem SecOwn.below {B : Nat} {w w' : World} {v : Value} {A : List RX} (h : SecOwn B w v A) (hb : Below w.heap.size w w') : SecOwn B w' v A := by
  obtain ⟨hl, hn | ⟨g, cap, cur, rfl, h1, hg, h2⟩⟩ := h
  · exact ⟨hl, .inl hn⟩
  · exact ⟨hl, .inr ⟨g, cap, cur, rfl, h1, (hb.block g (Array.getElem?_eq_some_iff.1 hg).1).trans hg, h2⟩⟩
theorem SecOwn.alloc {B : Nat} {w : World} {v : Value} {A : List RX} (h : SecOwn B w v A) (o : Obj) : SecOwn B (w.alloc o) v A := h.below ((Below.refl _ w).alloc (Nat.le_refl _) o)
theorem SecOwn.shape {B : Nat} {w : World} {v : Value} {A : List RX} (h : SecOwn B w v A) : ∃ ad cap, v = .slice ad A.length cap := by
  obtain ⟨hl, ⟨e, h0⟩ | ⟨g, cap, cur, rfl, _⟩⟩ := h
  · exact ⟨none, 0, by rw [e, h0]⟩
  · exact ⟨_, cap, rfl⟩
theorem SecOwn.row {P : Nat → Prop} {B : Nat} {w : World} {v : Value} {A : List RX} (h : SecOwn B w v A) (hl : A.length ≤ 1099511627776) (hP : ∀ b, B ≤ b → P b) (ho : ∀ x ∈ A, x.ok P w) : SecRow P w v A := SecRow.of_own h rfl hl hP ho
/-- 'append(l, y)' where the call has made l. -/
theorem append_sec {P : Nat → Prop} {w : World} {ops : Array Oper} {rest : List Oper} {o : Oper} {a : Act} {Q : Exit → Act → World → Prop} (hgd : o.guard = none) (s x : Operand)
    (ho : o.op = .call { callee := .builtin .append, args := #[s, x], argTypes := #[25, 25] }) (B : Nat) (v : Value) (A : List RX) (y : RX)
    (hs : a.eval s = v) (hown : SecOwn B w v A) (g c : Nat) (hx : a.eval x = .slice (some ⟨g, 0, none⟩) 1 c) (h4 : FourAt w g 0 y) (w0 : World) (hy : y.ok P w0) (hl : A.length ≤ 1099511627777) (hB : B ≤ w.heap.size)
    (h : ∀ v' w', SecOwn B w' v' (A ++ [y]) → Below B w w' → (∀ k, k < w.heap.size → v.ownBlock ≠ some k → w'.heap[k]? = w.heap[k]?) → wpList Try.prog ops Q rest (a.put o.dst v') w') : wpList Try.prog ops Q (o :: rest) a w := by
  obtain ⟨i0, hi, hz0, hz1, hz2⟩ := info_parts info_sec
  refine wpList_append_own w hgd s x 25 ho B 95 i0 _ 4 48 Try.underlying25 hi hz0 hz1 hz2 rfl (by decide) v A.length _ hs hown ⟨g, 0, none⟩ 1 c y.cells hx rfl ?_ (RX.cells_one hy) (by unfold maxLen; omega) (by omega) hB ?_
  · intro j u hj
    have hadd : ∀ j, (⟨g, 0, none⟩ : Addr).add j = ⟨g, 0 + j, none⟩ := fun j => by unfold Addr.add; split <;> simp_all
    rw [hadd]
    match j, hj with
    | 0, hj => simp [RX.cells] at hj; rw [← hj]; exact h4.c0
    | 1, hj => simp [RX.cells] at hj; rw [← hj]; exact h4.c1
    | 2, hj => simp [RX.cells] at hj; rw [← hj]; exact h4.c2
    | 3, hj => simp [RX.cells] at hj; rw [← hj]; exact h4.c3
    | j + 4, hj => simp [RX.cells] at hj
  · intro v' w' h5 h6 _
    refine h v' w' ?_ ((Below.refl B w).grown h6 hB (fun k hk => (World.ownsRow.lt hown k hk).1)) (fun k hk hne => h6.block k hk hne.symm)
    unfold SecOwn
    rw [secCells_snoc, List.length_append]
    exact h5
/-- The sectors with s in its place. -/
def putX (s : RX) : Bool → List RX → List RX
  | done, [] => if done then [] else [s]
  | done, x :: r => (if !done && (rsSame x.s s.s || rsBehind x.s s.s) then [s] else []) ++ ((if rsSame x.s s.s then [] else [x]) ++ putX s (done || (rsSame x.s s.s || rsBehind x.s s.s)) r)
theorem putX_map (s : RX) : ∀ (X : List RX) (done : Bool), (putX s done X).map RX.s = putR s.s done (X.map RX.s)
  | [], done => by cases done <;> rfl
  | x :: r, done => by
    rw [putX, List.map_cons, putR, List.map_append, List.map_append, putX_map s r]
    congr 1
    · split <;> rfl
    · congr 1
      split <;> rfl
theorem putX_step (s x : RX) (done : Bool) (acc : List RX) (r : List RX) : acc ++ putX s done (x :: r) = (acc ++ (if !done && (rsSame x.s s.s || rsBehind x.s s.s) then [s] else []) ++ (if rsSame x.s s.s then [] else [x])) ++ putX s (done || (rsSame x.s s.s || rsBehind x.s s.s)) r := by
  rw [putX]; simp only [List.append_assoc]
/-- The blocks of the call: the disk, the sector, the result. -/
structure PutAt (b : Nat) (r : RD) (l : Value) (s : RX) (w : World) : Prop where
  b0 : w.heap[b]? = some (.cells #[.int .i64 r.room, .int .i64 r.steps, .int .i64 r.left, .bool r.armed, .bool r.dead, l] 27 (0, 0))
  b1 : w.heap[b + 1]? = some (.cells #[.int .u64 s.s.area, .int .i64 s.s.n, s.lv, .bool s.s.sy] 95 (0, 0))
  b2 : w.heap[b + 1 + 1]? = some (.cells #[.int .i64 0, .int .i64 0, .int .i64 0, .bool false, .bool false, .slice none 0 0] 27 (0, 0))
theorem PutAt.below {b : Nat} {r : RD} {l : Value} {s : RX} {w w' : World} (h : PutAt b r l s w) {B : Nat} (hB : b + 2 < B) (hb : Below B w w') : PutAt b r l s w' :=
  ⟨(hb.block b (by omega)).trans h.b0, (hb.block (b + 1) (by omega)).trans h.b1, (hb.block (b + 1 + 1) (by omega)).trans h.b2⟩
theorem PutAt.lt {b : Nat} {r : RD} {l : Value} {s : RX} {w : World} (h : PutAt b r l s w) : b + 2 < w.heap.size := (Array.getElem?_eq_some_iff.1 h.b2).1
theorem putX_nil (s : RX) (done : Bool) : putX s done [] = if done then [] else [s] := rfl
structure PutInv (w w3 : World) (s : RX) (X : List RX) (v5 v6 v7 : Value) (wr : World) (i : Nat) (done : Bool) (acc : List RX) : Prop where
  e6 : v6 = .bool done
  e7 : v7 = .int .i64 i
  hi : i ≤ X.length
  own : SecOwn (w.heap.size + 3) wr v5 acc
  eq : acc ++ putX s done (X.drop i) = putX s false X
  len : acc.length ≤ i + done.toNat
  mem : ∀ x ∈ acc, x = s ∨ x ∈ X
  below : Below (w.heap.size + 3) w3 wr
theorem four_new (w : World) (y : RX) (lv : Value) (t : TypeId) (g : Nat) (hg : g = w.heap.size) (e : y.lv = lv) : FourAt (w.alloc (.cells #[.int .u64 y.s.area, .int .i64 y.s.n, lv, .bool y.s.sy] t)) g 0 y := by
  subst hg
  refine ⟨?_, ?_, ?_, ?_⟩ <;> simp [e]
theorem PutInv.next {w w3 : World} {s x : RX} {X acc : List RX} {v5 v6 v7 v5' v6' v7' : Value} {wr wr' : World} {i : Nat} {done : Bool} (h : PutInv w w3 s X v5 v6 v7 wr i done acc) (hx : X[i]? = some x)
    (hown : SecOwn (w.heap.size + 3) wr' v5' (acc ++ (if !done && (rsSame x.s s.s || rsBehind x.s s.s) then [s] else []) ++ (if rsSame x.s s.s then [] else [x]))) (hb : Below (w.heap.size + 3) wr wr')
    (e6 : v6' = .bool (done || (rsSame x.s s.s || rsBehind x.s s.s))) (e7 : v7' = .int .i64 ((i : Int) + 1)) : ∃ i' done' acc', PutInv w w3 s X v5' v6' v7' wr' i' done' acc' := by
  have hin := (List.getElem?_eq_some_iff.1 hx).1
  have hid : X.drop i = x :: X.drop (i + 1) := by
    rw [List.drop_eq_getElem_cons hin]
    congr 1
    exact Option.some.inj ((List.getElem?_eq_getElem hin).symm.trans hx)
  have HE := h.eq
  rw [hid, putX_step] at HE
  refine ⟨i + 1, _, _, e6, by rw [e7]; rfl, hin, hown, HE, ?_, fun y hy => ?_, h.below.trans hb⟩
  · have hl := h.len
    rw [List.length_append, List.length_append]
    cases done <;> cases h1 : rsSame x.s s.s <;> cases h2 : rsBehind x.s s.s <;> simp at hl ⊢ <;> omega
  · rcases List.mem_append.1 hy with hy | hy
    · rcases List.mem_append.1 hy with hy | hy
      · exact h.mem y hy
      · split at hy
        · exact .inl (by simpa using hy)
        · cases hy
    · split at hy
      · cases hy
      · exact .inr (by simp at hy; rw [hy]; exact List.mem_of_getElem? hx)
theorem putX_mem (s : RX) : ∀ (X : List RX) (done : Bool) (x : RX), x ∈ putX s done X → x = s ∨ x ∈ X
  | [], done, x, h => by
    cases done <;> simp [putX] at h
    exact .inl h
  | y :: r, done, x, h => by
    rw [putX] at h
    rcases List.mem_append.1 h with h | h
    · split at h
      · exact .inl (by simpa using h)
      · cases h
    · rcases List.mem_append.1 h with h | h
      · split at h
        · cases h
        · exact .inr (by simp at h; rw [h]; exact .head _)
      · exact (putX_mem s r _ x h).imp id (.tail _)
theorem putX_len (s : RX) : ∀ (X : List RX) (done : Bool), (putX s done X).length ≤ X.length + (!done).toNat
  | [], done => by cases done <;> simp [putX]
  | y :: r, done => by
    have ih := putX_len s r (done || (rsSame y.s s.s || rsBehind y.s s.s))
    rw [putX, List.length_append, List.length_append, List.length_cons]
    cases done <;> cases h1 : rsSame y.s s.s <;> cases h2 : rsBehind y.s s.s <;> simp [h1, h2] at ih ⊢ <;> omega
theorem put_end {w w3 W : World} {r : RD} {l : Value} {s : RX} {X A : List RX} {av : Option Addr} {n c : Nat} (hP : PutAt w.heap.size r l s W) (hown : SecOwn (w.heap.size + 3) W (.slice av n c) A) (hb : Below (w.heap.size + 3) w3 W) (hB3 : Below w.heap.size w w3) (hA : A = putX s false X) :
    (six (W.setCell ⟨w.heap.size, 5, none⟩ (.slice av n c)) (w.heap.size + 1 + 1) (.int .i64 r.room) (.int .i64 r.steps) (.int .i64 r.left) (.bool r.armed) (.bool r.dead) (.slice av n c)).heap[w.heap.size + 1 + 1]? = some (.cells #[.int .i64 r.room, .int .i64 r.steps, .int .i64 r.left, .bool r.armed, .bool r.dead, .slice av n c] 27 (0, 0)) ∧
    SecOwn (w.heap.size + 3) (six (W.setCell ⟨w.heap.size, 5, none⟩ (.slice av n c)) (w.heap.size + 1 + 1) (.int .i64 r.room) (.int .i64 r.steps) (.int .i64 r.left) (.bool r.armed) (.bool r.dead) (.slice av n c)) (.slice av n c) (putX s false X) ∧
    Below w.heap.size w (six (W.setCell ⟨w.heap.size, 5, none⟩ (.slice av n c)) (w.heap.size + 1 + 1) (.int .i64 r.room) (.int .i64 r.steps) (.int .i64 r.left) (.bool r.armed) (.bool r.dead) (.slice av n c)) := by
  have hbW : Below w.heap.size w W := hB3.trans (hb.mono (by omega))
  have hb6 := six_below (hbW.setCell (p := ⟨w.heap.size, 5, none⟩) (Nat.le_refl _) (.slice av n c)) (b := w.heap.size + 1 + 1) (by omega) (.int .i64 r.room) (.int .i64 r.steps) (.int .i64 r.left) (.bool r.armed) (.bool r.dead) (.slice av n c)
  have far : ∀ k, w.heap.size + 3 ≤ k → (six (W.setCell ⟨w.heap.size, 5, none⟩ (.slice av n c)) (w.heap.size + 1 + 1) (.int .i64 r.room) (.int .i64 r.steps) (.int .i64 r.left) (.bool r.armed) (.bool r.dead) (.slice av n c)).heap[k]? = W.heap[k]? := fun k hk => by
    rw [six_far _ _ _ (by omega)]
    exact Below.heap_setCell _ _ _ _ (by show k ≠ w.heap.size; omega)
  refine ⟨?_, ?_, hb6⟩
  · refine six_set (a0 := .int .i64 0) (a1 := .int .i64 0) (a2 := .int .i64 0) (a3 := .bool false) (a4 := .bool false) (a5 := .slice none 0 0) ?_ _ _ _ _ _ _
    rw [Below.heap_setCell _ _ _ _ (by show w.heap.size + 1 + 1 ≠ w.heap.size; omega)]
    exact hP.b2
  · subst hA
    obtain ⟨h1, h2 | ⟨g, cap, cur, e, h3, h4, h5⟩⟩ := hown
    · exact ⟨h1, .inl h2⟩
    · exact ⟨h1, .inr ⟨g, cap, cur, e, h3, (far g h3).trans h4, h5⟩⟩
set_option maxHeartbeats 4000000 in
theorem refPut_any (P P' : Nat → Prop) (r : RD) (l : Value) (X : List RX) (s : RX) (w : World) (hX : SecRow P w l X) (hs : s.ok P' w) (hl : X.length < 1099511627776) :
    Calls Try.prog 76 #[rdV r l, s.val] w fun e w' => ∃ l', e = .returned (rdV r l') ∧ SecOwn (w.heap.size + 3) w' l' (putX s false X) ∧ Below w.heap.size w w' := by
  obtain ⟨⟨hb, hc, elv, _, hh, hst⟩, hne⟩ := id hs
  have HS : Hid (s.ok P' w) := hs
  have HX : Hid (∀ x ∈ X, x.ok P w) := by obtain ⟨_, _, _, _, _, h⟩ := hX; exact h
  obtain ⟨ad, cap, rfl, _, hcs, hok⟩ := hX
  have HCS : Hid (0 < X.length → ∃ g, ad = some ⟨g, 0, none⟩ ∧ P g ∧ g < w.heap.size ∧ ∀ i x, X[i]? = some x → FourAt w g (i * 4) x) := hcs
  clear hcs hok hs hst hh hne
  unfold rdV RX.val
  rw [elv]
  obtain ⟨w3, hw3⟩ : ∃ w3, ((w.alloc (.cells #[.int .i64 r.room, .int .i64 r.steps, .int .i64 r.left, .bool r.armed, .bool r.dead, .slice ad X.length cap] 27)).alloc (.cells #[.int .u64 s.s.area, .int .i64 s.s.n, .slice (some ⟨hb, 0, none⟩) s.s.vs.length hc, .bool s.s.sy] 95)).alloc
    (.cells #[.int .i64 0, .int .i64 0, .int .i64 0, .bool false, .bool false, .slice none 0 0] 27) = w3 := ⟨_, rfl⟩
  have hP3 : Hid (PutAt w.heap.size r (.slice ad X.length cap) s w3) := by
    subst hw3
    refine ⟨?_, ?_, ?_⟩
    · rw [alloc_old _ _ (by simp; omega), alloc_old _ _ (by simp), alloc_new]
    · rw [alloc_old _ _ (by simp), elv]
      have := alloc_new (w.alloc (.cells #[.int .i64 r.room, .int .i64 r.steps, .int .i64 r.left, .bool r.armed, .bool r.dead, .slice ad X.length cap] 27)) (.cells #[.int .u64 s.s.area, .int .i64 s.s.n, .slice (some ⟨hb, 0, none⟩) s.s.vs.length hc, .bool s.s.sy] 95)
      rwa [alloc_size] at this
    · have := alloc_new ((w.alloc (.cells #[.int .i64 r.room, .int .i64 r.steps, .int .i64 r.left, .bool r.armed, .bool r.dead, .slice ad X.length cap] 27)).alloc (.cells #[.int .u64 s.s.area, .int .i64 s.s.n, .slice (some ⟨hb, 0, none⟩) s.s.vs.length hc, .bool s.s.sy] 95)) (.cells #[.int .i64 0, .int .i64 0, .int .i64 0, .bool false, .bool false, .slice none 0 0] 27)
      rwa [alloc_size, alloc_size] at this
  have hB3 : Hid (Below w.heap.size w w3) := by
    subst hw3
    exact (((Below.refl _ w).alloc (Nat.le_refl _) _).alloc (by simp) _).alloc (by simp; omega) _
  have hs3 : w3.heap.size = w.heap.size + 3 := by subst hw3; simp
  go_enter Try.func76, Try.ntmps76
  go_wp2
  try rw [hw3]
  clear hw3
  go_loopw [5, 6, 7] (fun v5 v6 v7 wr => ∃ i done acc, PutInv w w3 s X v5 v6 v7 wr i done acc) (fun _ _ v7 _ => X.length - (intOf v7).toNat)
  case atStart => exact ⟨0, false, [], rfl, rfl, Nat.zero_le _, SecOwn.nil _ _, rfl, Nat.zero_le _, fun x hx => (by cases hx), Below.refl _ _⟩
  case round =>
    obtain ⟨i, done, acc, hI⟩ := hrel
    have HI : Hid (PutInv w w3 s X _ _ _ wr i done acc) := hI
    obtain ⟨rfl, rfl, hi, hown, heq, hlen, hmem, hbw⟩ := hI
    have hP := hP3.out.below (B := w.heap.size + 3) (by omega) hbw
    obtain ⟨d0, d1, d2, d3, d4, d5, dz⟩ := six_cells hP.b0
    obtain ⟨s0, s1, s2, s3, sz⟩ := four_cells hP.b1
    obtain ⟨r0, r1, r2, r3, r4, r5, rz⟩ := six_cells hP.b2
    have hwl := hP.lt
    rw [elv] at s2
    obtain ⟨av, ac, rfl⟩ := hown.shape
    clear hown heq hmem hbw hP
    by_cases hin : i < X.length
    · obtain ⟨g, rfl, _, hg, hx4⟩ := HCS.out (by omega)
      obtain ⟨x, hx⟩ : ∃ x, X[i]? = some x := ⟨_, List.getElem?_eq_getElem hin⟩
      have hb0 : Below w.heap.size w wr := hB3.out.trans (HI.out.below.mono (by omega))
      obtain ⟨x0, x1, x2, x3⟩ := (hx4 i x hx).below hg hb0
      obtain ⟨⟨xh, xc, exl, _, _, _⟩, _⟩ := id (HX.out x (List.mem_of_getElem? hx))
      rw [exl] at x2
      have HXO : Hid (x.ok P w) := HX.out x (List.mem_of_getElem? hx)
      have HM : Hid (X[i]? = some x) := hx
      have hal : acc.length ≤ i + 1 := by cases done <;> simp at hlen <;> omega
      have n1 : w.heap.size < wr.heap.size := by omega
      have n2 : w.heap.size + 1 < wr.heap.size := by omega
      have n3 : w.heap.size + 1 + 1 < wr.heap.size := by omega
      have n4 : w.heap.size < wr.heap.size + 1 := by omega
      have n5 : w.heap.size + 1 < wr.heap.size + 1 := by omega
      have n6 : w.heap.size + 1 + 1 < wr.heap.size + 1 := by omega
      clear hx4 hx hb0 hlen
      rcases Int.lt_trichotomy x.s.area s.s.area with ea | ea | ea
      · have en := True.intro
        have hsm : rsSame x.s s.s = false := by rw [Bool.eq_false_iff, ne_eq, rsSame_iff]; omega
        have hbh : rsBehind x.s s.s = false := by rw [Bool.eq_false_iff, ne_eq, rsBehind_iff]; omega
        have e1 : (x.s.area == s.s.area) = false := by simp; omega
        have e3 : ¬ s.s.area < x.s.area := by omega
        have HSM : Hid (rsSame x.s s.s = false) := hsm
        have HBH : Hid (rsBehind x.s s.s = false) := hbh
        clear hsm hbh ea en
        cases done with
        | true =>
          go_wp2_with (at_builtin; refine append_sec rfl _ _ rfl (w.heap.size + 3) _ acc x rfl ((HI.out.own.alloc _).alloc _) _ _ rfl (four_new _ _ _ _ _ (by simp) exl) w HXO.out (by omega) (by simp; omega) ?_; intro v' w' ho' hb' hk'; obtain ⟨bv2, bc2, rfl⟩ := ho'.shape; have HO : Hid (SecOwn (w.heap.size + 3) w' (.slice bv2 (acc ++ [x]).length bc2) (acc ++ [x])) := ho'; have HB : Hid (Below (w.heap.size + 3) wr w') := (((Below.refl _ wr).alloc (by omega) _).alloc (by simp; omega) _).trans hb'; clear hk' ho' hb')
          go_roundw
          case rel => exact HI.out.next HM.out (by rw [HSM.out, HBH.out]; simpa using HO.out) HB.out (by rw [HSM.out, HBH.out]; rfl) (by first | rfl | go_num)
          case measure => simp [intOf]; omega
        | false =>
          go_wp2_with (at_builtin; refine append_sec rfl _ _ rfl (w.heap.size + 3) _ acc x rfl ((HI.out.own.alloc _).alloc _) _ _ rfl (four_new _ _ _ _ _ (by simp) exl) w HXO.out (by omega) (by simp; omega) ?_; intro v' w' ho' hb' hk'; obtain ⟨bv2, bc2, rfl⟩ := ho'.shape; have HO : Hid (SecOwn (w.heap.size + 3) w' (.slice bv2 (acc ++ [x]).length bc2) (acc ++ [x])) := ho'; have HB : Hid (Below (w.heap.size + 3) wr w') := (((Below.refl _ wr).alloc (by omega) _).alloc (by simp; omega) _).trans hb'; clear hk' ho' hb')
          go_roundw
          case rel => exact HI.out.next HM.out (by rw [HSM.out, HBH.out]; simpa using HO.out) HB.out (by rw [HSM.out, HBH.out]; rfl) (by first | rfl | go_num)
          case measure => simp [intOf]; omega
      · rcases Int.lt_trichotomy x.s.n s.s.n with en | en | en
        · have hsm : rsSame x.s s.s = false := by rw [Bool.eq_false_iff, ne_eq, rsSame_iff]; omega
          have hbh : rsBehind x.s s.s = false := by rw [Bool.eq_false_iff, ne_eq, rsBehind_iff]; omega
          have e1 : (x.s.area == s.s.area) = true := by simp [ea]
          have e2 : (x.s.n == s.s.n) = false := by simp; omega
          have e3 : ¬ s.s.area < x.s.area := by omega
          have e4 : ¬ s.s.n < x.s.n := by omega
          have HSM : Hid (rsSame x.s s.s = false) := hsm
          have HBH : Hid (rsBehind x.s s.s = false) := hbh
          clear hsm hbh ea en
          cases done with
          | true =>
            go_wp2_with (at_builtin; refine append_sec rfl _ _ rfl (w.heap.size + 3) _ acc x rfl ((HI.out.own.alloc _).alloc _) _ _ rfl (four_new _ _ _ _ _ (by simp) exl) w HXO.out (by omega) (by simp; omega) ?_; intro v' w' ho' hb' hk'; obtain ⟨bv2, bc2, rfl⟩ := ho'.shape; have HO : Hid (SecOwn (w.heap.size + 3) w' (.slice bv2 (acc ++ [x]).length bc2) (acc ++ [x])) := ho'; have HB : Hid (Below (w.heap.size + 3) wr w') := (((Below.refl _ wr).alloc (by omega) _).alloc (by simp; omega) _).trans hb'; clear hk' ho' hb')
            go_roundw
            case rel => exact HI.out.next HM.out (by rw [HSM.out, HBH.out]; simpa using HO.out) HB.out (by rw [HSM.out, HBH.out]; rfl) (by first | rfl | go_num)
            case measure => simp [intOf]; omega
          | false =>
            go_wp2_with (at_builtin; refine append_sec rfl _ _ rfl (w.heap.size + 3) _ acc x rfl ((HI.out.own.alloc _).alloc _) _ _ rfl (four_new _ _ _ _ _ (by simp) exl) w HXO.out (by omega) (by simp; omega) ?_; intro v' w' ho' hb' hk'; obtain ⟨bv2, bc2, rfl⟩ := ho'.shape; have HO : Hid (SecOwn (w.heap.size + 3) w' (.slice bv2 (acc ++ [x]).length bc2) (acc ++ [x])) := ho'; have HB : Hid (Below (w.heap.size + 3) wr w') := (((Below.refl _ wr).alloc (by omega) _).alloc (by simp; omega) _).trans hb'; clear hk' ho' hb')
            go_roundw
            case rel => exact HI.out.next HM.out (by rw [HSM.out, HBH.out]; simpa using HO.out) HB.out (by rw [HSM.out, HBH.out]; rfl) (by first | rfl | go_num)
            case measure => simp [intOf]; omega
        · have hsm : rsSame x.s s.s = true := by rw [rsSame_iff]; omega
          have hbh : rsBehind x.s s.s = false := by rw [Bool.eq_false_iff, ne_eq, rsBehind_iff]; omega
          have e1 : (x.s.area == s.s.area) = true := by simp [ea]
          have e2 : (x.s.n == s.s.n) = true := by simp [en]
          have e3 : ¬ s.s.area < x.s.area := by omega
          have e4 : ¬ s.s.n < x.s.n := by omega
          have HSM : Hid (rsSame x.s s.s = true) := hsm
          have HBH : Hid (rsBehind x.s s.s = false) := hbh
          clear hsm hbh ea en
          cases done with
          | true =>
            go_wp2
            go_roundw
            case rel => exact HI.out.next HM.out (by rw [HSM.out, HBH.out]; simpa using HI.out.own.alloc _) ((Below.refl _ wr).alloc (by omega) _) (by rw [HSM.out, HBH.out]; rfl) (by first | rfl | go_num)
            case measure => simp [intOf]; omega
          | false =>
            go_wp2_with (at_builtin; refine append_sec rfl _ _ rfl (w.heap.size + 3) _ acc s rfl ((HI.out.own.alloc _).alloc _) _ _ rfl (four_new _ _ _ _ _ (by simp) elv) w HS.out (by omega) (by simp; omega) ?_; intro v' w' ho' hb' hk'; obtain ⟨bv2, bc2, rfl⟩ := ho'.shape; have hxk := hk' wr.heap.size (by simp; omega) (fun e => by have := (World.ownsRow.lt HI.out.own _ e).2; omega); have y0 := (World.cell?_of_block (a := ⟨wr.heap.size, 0, none⟩) hxk); have y1 := (World.cell?_of_block (a := ⟨wr.heap.size, 1, none⟩) hxk); have y2 := (World.cell?_of_block (a := ⟨wr.heap.size, 2, none⟩) hxk); have y3 := (World.cell?_of_block (a := ⟨wr.heap.size, 3, none⟩) hxk); simp [go_sem] at y0 y1 y2 y3; have HO : Hid (SecOwn (w.heap.size + 3) w' (.slice bv2 (acc ++ [s]).length bc2) (acc ++ [s])) := ho'; have HB : Hid (Below (w.heap.size + 3) wr w') := (((Below.refl _ wr).alloc (by omega) _).alloc (by simp; omega) _).trans hb'; have hsz' : wr.heap.size ≤ w'.heap.size := HB.out.size; clear hk' hxk ho' hb')
            go_roundw
            case rel => exact HI.out.next HM.out (by rw [HSM.out, HBH.out]; simpa using HO.out) HB.out (by rw [HSM.out, HBH.out]; rfl) (by first | rfl | go_num)
            case measure => simp [intOf]; omega
        · have hsm : rsSame x.s s.s = false := by rw [Bool.eq_false_iff, ne_eq, rsSame_iff]; omega
          have hbh : rsBehind x.s s.s = true := by rw [rsBehind_iff]; omega
          have e1 : (x.s.area == s.s.area) = true := by simp [ea]
          have e2 : (x.s.n == s.s.n) = false := by simp; omega
          have e3 : ¬ s.s.area < x.s.area := by omega
          have e4 : s.s.n < x.s.n := by omega
          have HSM : Hid (rsSame x.s s.s = false) := hsm
          have HBH : Hid (rsBehind x.s s.s = true) := hbh
          clear hsm hbh ea en
          cases done with
          | true =>
            go_wp2_with (at_builtin; refine append_sec rfl _ _ rfl (w.heap.size + 3) _ acc x rfl ((HI.out.own.alloc _).alloc _) _ _ rfl (four_new _ _ _ _ _ (by simp) exl) w HXO.out (by omega) (by simp; omega) ?_; intro v' w' ho' hb' hk'; obtain ⟨bv2, bc2, rfl⟩ := ho'.shape; have HO : Hid (SecOwn (w.heap.size + 3) w' (.slice bv2 (acc ++ [x]).length bc2) (acc ++ [x])) := ho'; have HB : Hid (Below (w.heap.size + 3) wr w') := (((Below.refl _ wr).alloc (by omega) _).alloc (by simp; omega) _).trans hb'; clear hk' ho' hb')
            go_roundw
            case rel => exact HI.out.next HM.out (by rw [HSM.out, HBH.out]; simpa using HO.out) HB.out (by rw [HSM.out, HBH.out]; rfl) (by first | rfl | go_num)
            case measure => simp [intOf]; omega
          | false =>
            go_wp2_with (first | (at_builtin; refine append_sec rfl _ _ rfl (w.heap.size + 3) _ acc s rfl ((HI.out.own.alloc _).alloc _) _ _ rfl (four_new _ _ _ _ _ (by simp) elv) w HS.out (by omega) (by simp; omega) ?_; intro v' w' ho' hb' hk'; obtain ⟨bv2, bc2, rfl⟩ := ho'.shape; have hxk := hk' wr.heap.size (by simp; omega) (fun e => by have := (World.ownsRow.lt HI.out.own _ e).2; omega); have y0 := (World.cell?_of_block (a := ⟨wr.heap.size, 0, none⟩) hxk); have y1 := (World.cell?_of_block (a := ⟨wr.heap.size, 1, none⟩) hxk); have y2 := (World.cell?_of_block (a := ⟨wr.heap.size, 2, none⟩) hxk); have y3 := (World.cell?_of_block (a := ⟨wr.heap.size, 3, none⟩) hxk); simp [go_sem] at y0 y1 y2 y3; have HO : Hid (SecOwn (w.heap.size + 3) w' (.slice bv2 (acc ++ [s]).length bc2) (acc ++ [s])) := ho'; have HB : Hid (Below (w.heap.size + 3) wr w') := (((Below.refl _ wr).alloc (by omega) _).alloc (by simp; omega) _).trans hb'; have hsz' : wr.heap.size ≤ w'.heap.size := HB.out.size; clear hk' hxk ho' hb') | (at_builtin; refine append_sec rfl _ _ rfl (w.heap.size + 3) _ (acc ++ [s]) x (by simp [Act.eval]) (HO.out.alloc _) _ _ rfl (four_new _ _ _ _ _ (by simp) exl) w HXO.out (by simp; omega) (by simp; omega) ?_; intro v2 w2 ho2 hb2 hk2; obtain ⟨bv3, bc3, rfl⟩ := ho2.shape; have HO2 : Hid (SecOwn (w.heap.size + 3) w2 (.slice bv3 (acc ++ [s] ++ [x]).length bc3) (acc ++ [s] ++ [x])) := ho2; have HB2 : Hid (Below (w.heap.size + 3) wr w2) := HB.out.trans (((Below.refl _ w').alloc (by omega) _).trans hb2); clear hk2 ho2 hb2))
            go_roundw
            case rel => exact HI.out.next HM.out (by rw [HSM.out, HBH.out]; simpa using HO2.out) HB2.out (by rw [HSM.out, HBH.out]; rfl) (by first | rfl | go_num)
            case measure => simp [intOf]; omega
      · have en := True.intro
        have hsm : rsSame x.s s.s = false := by rw [Bool.eq_false_iff, ne_eq, rsSame_iff]; omega
        have hbh : rsBehind x.s s.s = true := by rw [rsBehind_iff]; omega
        have e1 : (x.s.area == s.s.area) = false := by simp; omega
        have e3 : s.s.area < x.s.area := by omega
        have HSM : Hid (rsSame x.s s.s = false) := hsm
        have HBH : Hid (rsBehind x.s s.s = true) := hbh
        clear hsm hbh ea en
        cases done with
        | true =>
          go_wp2_with (at_builtin; refine append_sec rfl _ _ rfl (w.heap.size + 3) _ acc x rfl ((HI.out.own.alloc _).alloc _) _ _ rfl (four_new _ _ _ _ _ (by simp) exl) w HXO.out (by omega) (by simp; omega) ?_; intro v' w' ho' hb' hk'; obtain ⟨bv2, bc2, rfl⟩ := ho'.shape; have HO : Hid (SecOwn (w.heap.size + 3) w' (.slice bv2 (acc ++ [x]).length bc2) (acc ++ [x])) := ho'; have HB : Hid (Below (w.heap.size + 3) wr w') := (((Below.refl _ wr).alloc (by omega) _).alloc (by simp; omega) _).trans hb'; clear hk' ho' hb')
          go_roundw
          case rel => exact HI.out.next HM.out (by rw [HSM.out, HBH.out]; simpa using HO.out) HB.out (by rw [HSM.out, HBH.out]; rfl) (by first | rfl | go_num)
          case measure => simp [intOf]; omega
        | false =>
          go_wp2_with (first | (at_builtin; refine append_sec rfl _ _ rfl (w.heap.size + 3) _ acc s rfl ((HI.out.own.alloc _).alloc _) _ _ rfl (four_new _ _ _ _ _ (by simp) elv) w HS.out (by omega) (by simp; omega) ?_; intro v' w' ho' hb' hk'; obtain ⟨bv2, bc2, rfl⟩ := ho'.shape; have hxk := hk' wr.heap.size (by simp; omega) (fun e => by have := (World.ownsRow.lt HI.out.own _ e).2; omega); have y0 := (World.cell?_of_block (a := ⟨wr.heap.size, 0, none⟩) hxk); have y1 := (World.cell?_of_block (a := ⟨wr.heap.size, 1, none⟩) hxk); have y2 := (World.cell?_of_block (a := ⟨wr.heap.size, 2, none⟩) hxk); have y3 := (World.cell?_of_block (a := ⟨wr.heap.size, 3, none⟩) hxk); simp [go_sem] at y0 y1 y2 y3; have HO : Hid (SecOwn (w.heap.size + 3) w' (.slice bv2 (acc ++ [s]).length bc2) (acc ++ [s])) := ho'; have HB : Hid (Below (w.heap.size + 3) wr w') := (((Below.refl _ wr).alloc (by omega) _).alloc (by simp; omega) _).trans hb'; have hsz' : wr.heap.size ≤ w'.heap.size := HB.out.size; clear hk' hxk ho' hb') | (at_builtin; refine append_sec rfl _ _ rfl (w.heap.size + 3) _ (acc ++ [s]) x (by simp [Act.eval]) (HO.out.alloc _) _ _ rfl (four_new _ _ _ _ _ (by simp) exl) w HXO.out (by simp; omega) (by simp; omega) ?_; intro v2 w2 ho2 hb2 hk2; obtain ⟨bv3, bc3, rfl⟩ := ho2.shape; have HO2 : Hid (SecOwn (w.heap.size + 3) w2 (.slice bv3 (acc ++ [s] ++ [x]).length bc3) (acc ++ [s] ++ [x])) := ho2; have HB2 : Hid (Below (w.heap.size + 3) wr w2) := HB.out.trans (((Below.refl _ w').alloc (by omega) _).trans hb2); clear hk2 ho2 hb2))
          go_roundw
          case rel => exact HI.out.next HM.out (by rw [HSM.out, HBH.out]; simpa using HO2.out) HB2.out (by rw [HSM.out, HBH.out]; rfl) (by first | rfl | go_num)
          case measure => simp [intOf]; omega
    · have hxn : ¬ ((i : Int) < (X.length : Int)) := by omega
      have hid : X.drop i = [] := List.drop_eq_nil_of_le (by omega)
      cases done with
      | false =>
        have hal : acc.length ≤ 1099511627777 := by simp at hlen; omega
        have h4 : ∀ o, FourAt (wr.alloc (.cells #[.int .u64 s.s.area, .int .i64 s.s.n, .slice (some ⟨hb, 0, none⟩) s.s.vs.length hc, .bool s.s.sy] o)) wr.heap.size 0 s := fun o => by
          refine ⟨?_, ?_, ?_, ?_⟩ <;> simp [elv]
        have HE : Hid (acc ++ [s] = putX s false X) := by
          have := HI.out.eq
          rw [hid] at this
          exact this
        clear hid
        go_wp2_with (at_builtin; refine append_sec rfl _ _ rfl (w.heap.size + 3) _ acc s rfl (HI.out.own.alloc _) _ _ rfl (h4 _) w HS.out hal (by simp; omega) ?_; intro v' w' ho' hb' _; obtain ⟨bv2, bc2, rfl⟩ := ho'.shape; have hbw2 := HI.out.below.trans (((Below.refl _ wr).alloc (by omega) _).trans hb'); have hP' := hP3.out.below (B := w.heap.size + 3) (by omega) hbw2; clear d0 d1 d2 d3 d4 d5 dz s0 s1 s2 s3 sz r0 r1 r2 r3 r4 r5 rz hwl; obtain ⟨d0, d1, d2, d3, d4, d5, dz⟩ := six_cells hP'.b0; obtain ⟨r0, r1, r2, r3, r4, r5, rz⟩ := six_cells hP'.b2; have HO : Hid (SecOwn (w.heap.size + 3) w' (.slice bv2 (acc ++ [s]).length bc2) (acc ++ [s])) := ho'; have HB : Hid (Below (w.heap.size + 3) w3 w') := hbw2; have HP : Hid (PutAt w.heap.size r (.slice ad X.length cap) s w') := hP'; clear ho' hbw2 hP' hb')
        have hend := put_end HP.out HO.out HB.out hB3.out HE.out
        simp only [List.length_append, List.length_singleton] at hend
        exact ret_disk (r := r) rfl rfl hend.1 rfl ⟨_, rfl, hend.2.1, hend.2.2⟩
      | true =>
        have HE : Hid (acc = putX s false X) := by
          have := HI.out.eq
          rw [hid] at this
          have h2 : acc = putX s false X := by simpa [putX] using this
          exact h2
        clear hid
        go_wp2
        have hend := put_end (hP3.out.below (B := w.heap.size + 3) (by omega) HI.out.below) HI.out.own HI.out.below hB3.out HE.out
        exact ret_disk (r := r) rfl rfl hend.1 rfl ⟨_, rfl, hend.2.1, hend.2.2⟩
end Go.Proofs.Ytpmmpdkeahmdiaa
