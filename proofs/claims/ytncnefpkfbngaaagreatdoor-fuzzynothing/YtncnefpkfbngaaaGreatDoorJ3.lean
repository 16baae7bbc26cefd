/- Texts that were written apart, joined. -/
import Derived.Test.YtncnefpkfbngaaaGreatDoorSa
import Derived.Laws.AppendOwnNone
import Derived.Test.YtncnefpkfbngaaaGreatDoorJ1
import Derived.WalkSmall
import Derived.Test.YtncnefpkfbngaaaGreatDoorJ0
import Derived.Deep.QuietTactic
import Derived.BigQuiet
import Derived.Deep.Cut
/- Rows of pairs: what is read, what the call has made; append; a row behind the sort. -/
namespace Go.Proofs.YtncnefpkfbngaaaGreatDoor
open Go.RowKit Go.Shelf Go.Lib Go.Sort Pm
set_option maxRecDepth 100000

theorem belowN {B : Nat} {a w : World} (h : Below B a w) (n : Nat) : Below B a (w.drewN n) := ⟨h.os, h.tape, h.output, h.size, h.block⟩
def cellsP (l : List Pr) : List Value := l.flatMap encP
theorem cellsP_len : ∀ l : List Pr, (cellsP l).length = l.length * 2
 | [] => rfl
 | x :: r => by rw [cellsP, List.flatMap_cons, List.length_append, ← cellsP, cellsP_len r, encP_k, List.length_cons]; omega
theorem cellsP_append (a b : List Pr) : cellsP (a ++ b) = cellsP a ++ cellsP b := List.flatMap_append ..
theorem cellsP_get : ∀ (l : List Pr) (i j : Nat) (x : Pr), l[i]? = some x → j < 2 → (cellsP l)[i * 2 + j]? = (encP x)[j]?
 | y :: r, 0, j, x, h, hj => by
  simp only [List.getElem?_cons_zero, Option.some.injEq] at h
  subst h
  rw [cellsP, List.flatMap_cons, List.getElem?_append_left (by rw [encP_k]; omega)]
  simp
 | y :: r, i + 1, j, x, h, hj => by
  have ih := cellsP_get r i j x (by simpa using h) hj
  rw [cellsP, List.flatMap_cons, List.getElem?_append_right (by rw [encP_k]; omega), encP_k]
  rw [show (i + 1) * 2 + j - 2 = i * 2 + j by omega]
  exact ih
theorem cellsP_one (l : List Pr) : ∀ v ∈ cellsP l, v.oneCell' = true := by
 intro v hv
 obtain ⟨x, _, hx⟩ := List.mem_flatMap.1 hv
 exact encP_one x v hx
/-- The two cells of a pair. -/
structure TwoAt (w : World) (g o : Nat) (x : Pr) : Prop where
 c0 : w.cell? ⟨g, o, none⟩ = some (.string x.1)
 c1 : w.cell? ⟨g, o + 1, none⟩ = some (.int .i64 x.2)
theorem TwoAt.below {w w' : World} {g o : Nat} {x : Pr} (h : TwoAt w g o x) {B : Nat} (hg : g < B) (hb : Below B w w') : TwoAt w' g o x :=
 ⟨(hb.cell (p := ⟨g, o, none⟩) hg).trans h.c0, (hb.cell (p := ⟨g, o + 1, none⟩) hg).trans h.c1⟩
theorem TwoAt.lt {w : World} {g o : Nat} {x : Pr} (h : TwoAt w g o x) : g < w.heap.size := lt_of_cell h.c0
theorem TwoAt.load {w : World} {g o : Nat} {x : Pr} (h : TwoAt w g o x) : loadP Tryz.prog (.pointer (some ⟨g, o, none⟩)) w = .ok (valP x) w := loadP_at h.c0 h.c1
/-- A row of pairs that is read. -/
def PRow (w : World) (v : Value) (l : List Pr) : Prop :=
 ∃ ad cap, v = .slice ad l.length cap ∧ (0 < l.length → ∃ g off, ad = some ⟨g, off, none⟩ ∧ g < w.heap.size ∧ ∀ i x, l[i]? = some x → TwoAt w g (off + i * 2) x)
theorem PRow.at {w : World} {ad : Option Addr} {n cap : Nat} {l : List Pr} (h : PRow w (.slice ad n cap) l) (h0 : 0 < n) : ∃ g off, ad = some ⟨g, off, none⟩ ∧ g < w.heap.size ∧ ∀ i x, l[i]? = some x → TwoAt w g (off + i * 2) x := by
 obtain ⟨ad', cap', e, hc⟩ := h
 simp only [Value.slice.injEq] at e
 obtain ⟨rfl, h2, rfl⟩ := e
 exact hc (by omega)
theorem PRow.nil (w : World) : PRow w (.slice none 0 0) [] := ⟨none, 0, rfl, fun h => by simp at h⟩
theorem PRow.below {w w' : World} {v : Value} {l : List Pr} (h : PRow w v l) (hb : Below w.heap.size w w') : PRow w' v l := by
 obtain ⟨ad, cap, rfl, hc⟩ := h
 refine ⟨ad, cap, rfl, fun h0 => ?_⟩
 obtain ⟨g, off, rfl, hg, hx⟩ := hc h0
 exact ⟨g, off, rfl, Nat.lt_of_lt_of_le hg hb.size, fun i x hi => (hx i x hi).below hg hb⟩
/-- A row of pairs that the call has made, in a block not below B. -/
def POwn (B : Nat) (w : World) (v : Value) (l : List Pr) : Prop := w.ownsRow B 47 2 v l.length (cellsP l)
theorem POwn.nil (B : Nat) (w : World) : POwn B w (.slice none 0 0) [] := World.ownsRow_nil _ _ _ _
theorem POwn.below {B : Nat} {w w' : World} {v : Value} {l : List Pr} (h : POwn B w v l) (hb : Below w.heap.size w w') : POwn B w' v l := by
 obtain ⟨hl, hn | ⟨g, cap, cur, rfl, h1, hg, h2⟩⟩ := h
 · exact ⟨hl, .inl hn⟩
 · exact ⟨hl, .inr ⟨g, cap, cur, rfl, h1, (hb.block g (Array.getElem?_eq_some_iff.1 hg).1).trans hg, h2⟩⟩
theorem POwn.mono {B B' : Nat} {w : World} {v : Value} {l : List Pr} (h : POwn B w v l) (hB : B' ≤ B) : POwn B' w v l := by
 obtain ⟨hl, hn | ⟨g, cap, cur, rfl, h1, h2⟩⟩ := h
 · exact ⟨hl, .inl hn⟩
 · exact ⟨hl, .inr ⟨g, cap, cur, rfl, by omega, h2⟩⟩
theorem POwn.shape {B : Nat} {w : World} {v : Value} {l : List Pr} (h : POwn B w v l) : ∃ ad cap, v = .slice ad l.length cap := by
 obtain ⟨hl, ⟨e, h0⟩ | ⟨g, cap, cur, rfl, _⟩⟩ := h
 · exact ⟨none, 0, by rw [e, h0]⟩
 · exact ⟨_, cap, rfl⟩
theorem POwn.cells {w : World} {g : Nat} {cur : Array Value} {l : List Pr} (hh : w.heap[g]? = some (.cells cur 47 (0, 0))) (h6 : cur.toList.take (l.length * 2) = cellsP l) : ∀ i x, l[i]? = some x → TwoAt w g (0 + i * 2) x := by
 intro i x hi
 have hil := (List.getElem?_eq_some_iff.1 hi).1
 have cell : ∀ j, j < 2 → w.cell? ⟨g, i * 2 + j, none⟩ = (encP x)[j]? := fun j hj => by
  have e := cellsP_get l i j x hi hj
  rw [← h6, List.getElem?_take, if_pos (by omega)] at e
  simp only [World.cell?, hh]
  simpa using e
 have c0 := cell 0 (by omega)
 have c1 := cell 1 (by omega)
 exact ⟨by rw [Nat.zero_add]; exact c0, by rw [Nat.zero_add]; exact c1⟩
theorem POwn.row {B : Nat} {w : World} {v : Value} {l : List Pr} (h : POwn B w v l) : PRow w v l := by
 obtain ⟨hl, ⟨e, h0⟩ | ⟨g, cap, cur, rfl, h1, hh, h3, h4, h5, h6⟩⟩ := h
 · rw [List.eq_nil_of_length_eq_zero h0, e]
   exact PRow.nil w
 · exact ⟨some ⟨g, 0, none⟩, cap, rfl, fun _ => ⟨g, 0, rfl, (Array.getElem?_eq_some_iff.1 hh).1, POwn.cells hh h6⟩⟩
/-- What a block's cells are makes the row. -/
theorem POwn.of_cells {B : Nat} {w : World} {g cap : Nat} {cur : Array Value} {l : List Pr} (hB : B ≤ g) (hh : w.heap[g]? = some (.cells cur 47 (0, 0))) (h3 : l.length ≤ cap) (h4 : cap ≤ maxLen) (h5 : cur.size = cap * 2) (hc : ∀ i x, l[i]? = some x → TwoAt w g (i * 2) x) :
 POwn B w (.slice (some ⟨g, 0, none⟩) l.length cap) l := by
 refine ⟨cellsP_len l, .inr ⟨g, cap, cur, rfl, hB, hh, h3, h4, h5, ?_⟩⟩
 refine List.ext_getElem (by rw [List.length_take, cellsP_len]; simp; omega) fun t p q => ?_
 rw [cellsP_len] at q
 obtain ⟨i, j, rfl, hj⟩ : ∃ i j, t = i * 2 + j ∧ j < 2 := ⟨t / 2, t % 2, by omega, by omega⟩
 have hi : i < l.length := by omega
 have hx : l[i]? = some l[i] := List.getElem?_eq_getElem hi
 have e1 := cellsP_get l i j l[i] hx hj
 have e2 := hc i l[i] hx
 have e3 : (cur.toList)[i * 2 + j]? = (encP l[i])[j]? := by
  rcases (by omega : j = 0 ∨ j = 1) with rfl | rfl
  · have := e2.c0
    simp only [World.cell?, hh] at this
    simpa [encP] using this
  · have := e2.c1
    simp only [World.cell?, hh] at this
    simpa [encP] using this
 have e4 : (cur.toList.take (l.length * 2))[i * 2 + j]? = (cellsP l)[i * 2 + j]? := by
  rw [List.getElem?_take, if_pos (by omega), e3, e1]
 rw [List.getElem?_eq_getElem p, List.getElem?_eq_getElem (by rw [cellsP_len]; exact q)] at e4
 exact Option.some.inj e4
theorem info_P : (Tryz.prog.info? 47).map (fun i => (i.zero, i.size, i.bytes)) = some (some (.agg #[.string ByteArray.empty, .int .i64 0]), 2, 24) := by kernel_rfl
theorem ownBelow {B : Nat} {w w' : World} {v : Value} {l : List Pr} (h : POwn B w v l) (hg : w.grownBy w' v.ownBlock) (hB : B ≤ w.heap.size) : Below B w w' :=
 (Below.refl B w).grown hg hB (fun k hk => (World.ownsRow.lt h k hk).1)
/-- What is made is made still, where only blocks not below B were turned, and not its own. -/
theorem PRow.grown {w w' : World} {v u : Value} {l m : List Pr} {B : Nat} (h : PRow w v l) (ho : POwn B w u m) (hg : w.grownBy w' u.ownBlock) (hv : ∀ ad cap, v = .slice (some ad) l.length cap → 0 < l.length → ad.block < B) (hB : B ≤ w.heap.size) : PRow w' v l := by
 have hb := ownBelow ho hg hB
 obtain ⟨ad, cap, rfl, hc⟩ := h
 refine ⟨ad, cap, rfl, fun h0 => ?_⟩
 obtain ⟨g, off, rfl, hgl, hx⟩ := hc h0
 exact ⟨g, off, rfl, Nat.lt_of_lt_of_le hgl hb.size, fun i x hi => (hx i x hi).below (hv _ _ rfl h0) hb⟩
/-- 'append(l, m...)' where the call has made l: what the builtin does. -/
theorem append_run {w : World} {B : Nat} {v s : Value} {l m : List Pr} (hown : POwn B w v l) (hr : PRow w s m) (hB : B ≤ w.heap.size) (h63 : l.length + m.length ≤ 2199023255552) (ty : TypeId) :
 ∃ v' w', (Builtin.append_ #[23, 23] ty #[v, s]).run Tryz.prog w = .ok v' w' ∧ POwn B w' v' (l ++ m) ∧ w.grownBy w' v.ownBlock := by
 obtain ⟨i0, hi, hz0, hz1, hz2⟩ := info_parts info_P
 obtain ⟨ad, cap, rfl, hc⟩ := hr
 rcases Nat.eq_zero_or_pos m.length with h0 | h0
 · have hm : m = [] := List.eq_nil_of_length_eq_zero h0
   subst hm
   refine ⟨v, w, ?_, by simpa using hown, ⟨rfl, rfl, rfl, Nat.le_refl _, fun _ _ _ => rfl⟩⟩
   obtain ⟨_, h2⟩ := hown
   rcases h2 with ⟨rfl, h0⟩ | ⟨g, cap, cur, rfl, hb, hh, h3, h4, h5, h6⟩
   · cases ad <;> go_simp
   · cases ad <;> go_simp
 · obtain ⟨g, off, rfl, hg, hx⟩ := hc h0
   obtain ⟨v', w', h1, h2, h3, _⟩ := run_append_own (P := Tryz.prog) w B 23 ty 47 i0 _ 2 24 Tryz.underlying23 hi hz0 hz1 hz2 rfl (by decide) v l.length _ hown ⟨g, off, none⟩ m.length cap (cellsP m) (cellsP_len m) (fun j u hj => by
    have hjl := (List.getElem?_eq_some_iff.1 hj).1
    rw [cellsP_len] at hjl
    obtain ⟨i, r, rfl, hr⟩ : ∃ i r, j = i * 2 + r ∧ r < 2 := ⟨j / 2, j % 2, by omega, by omega⟩
    have hi : i < m.length := by omega
    have e2 := hx i m[i] (List.getElem?_eq_getElem hi)
    rw [cellsP_get m i r m[i] (List.getElem?_eq_getElem hi) hr] at hj
    have hadd : ∀ j, (⟨g, off, none⟩ : Addr).add j = ⟨g, off + j, none⟩ := fun j => by unfold Addr.add; split <;> simp_all
    rw [hadd, ← Nat.add_assoc]
    rcases (by omega : r = 0 ∨ r = 1) with rfl | rfl
    · simp only [encP, List.getElem?_cons_zero, Option.some.injEq] at hj
      rw [← hj]; exact e2.c0
    · simp only [encP, List.getElem?_cons_succ, List.getElem?_cons_zero, Option.some.injEq] at hj
      rw [← hj]; exact e2.c1) (cellsP_one m) (by simp only [maxLen]; omega) (by omega) hB
   refine ⟨v', w', h1, ?_, h3⟩
   unfold POwn
   rw [List.length_append, cellsP_append]
   exact h2
/-- A row of one new pair. -/
theorem PRow.one {w : World} {g : Nat} {x : Pr} {c : Nat} (h : TwoAt w g 0 x) : PRow w (.slice (some ⟨g, 0, none⟩) 1 c) [x] :=
 ⟨_, c, rfl, fun _ => ⟨g, 0, rfl, h.lt, fun i y hi => by
  cases i with
  | zero => simp only [List.getElem?_cons_zero, Option.some.injEq] at hi; subst hi; simpa using h
  | succ i => simp at hi⟩⟩
/-- The law of append in a walk. -/
theorem append_p {w : World} {ops : Array Oper} {rest : List Oper} {o : Oper} {a : Act} {Q : Exit → Act → World → Prop} (hgd : o.guard = none) (s x : Operand)
 (ho : o.op = .call { callee := .builtin .append, args := #[s, x], argTypes := #[23, 23] }) (B : Nat) (v u : Value) (l m : List Pr) (hs : a.eval s = v) (hown : POwn B w v l) (hx : a.eval x = u) (hr : PRow w u m) (h63 : l.length + m.length ≤ 2199023255552) (hB : B ≤ w.heap.size)
 (h : ∀ v' w', POwn B w' v' (l ++ m) → Below B w w' → w.grownBy w' v.ownBlock → wpList Tryz.prog ops Q rest (a.put o.dst v') w') : wpList Tryz.prog ops Q (o :: rest) a w := by
 obtain ⟨v', w', h1, h2, h3⟩ := append_run hown hr hB h63 o.type
 refine wpList_plain hgd fun _ hK => ?_
 unfold Oper.wp execOp
 simp only [ho, resolve, invoke, builtin, Sem.run_bind, Sem.run_pure, Result.andThen_ok, List.map_toArray, List.map_cons, List.map_nil, hs, hx, h1]
 exact hK _ _ (h v' w' h2 (ownBelow hown h3 hB) h3)

theorem TwoAt.new (W : World) (x : Pr) (T : TypeId) : TwoAt (W.alloc (.cells #[.string x.1, .int .i64 x.2] T)) W.heap.size 0 x := ⟨by simp, by simp⟩
/-- 'append(l, x)': the pair x lies in a block that was made for it. -/
theorem append_x {W : World} {ops : Array Oper} {rest : List Oper} {o : Oper} {a : Act} {Q : Exit → Act → World → Prop} (hgd : o.guard = none) (s y : Operand) (x : Pr) (T : TypeId)
 (ho : o.op = .call { callee := .builtin .append, args := #[s, y], argTypes := #[23, 23] }) (B nb c : Nat) (v : Value) (l : List Pr) (hs : a.eval s = v) (hown : POwn B W v l) (hx : a.eval y = .slice (some ⟨nb, 0, none⟩) 1 c) (hnb : nb = W.heap.size) (h63 : l.length < 2199023255552) (hB : B ≤ W.heap.size)
 (h : ∀ v' w', POwn B w' v' (l ++ [x]) → Below B W w' → wpList Tryz.prog ops Q rest (a.put o.dst v') w') : wpList Tryz.prog ops Q (o :: rest) a (W.alloc (.cells #[.string x.1, .int .i64 x.2] T)) := by
 subst hnb
 refine append_p hgd s y ho B v _ l [x] hs (hown.below ((Below.refl _ W).alloc (Nat.le_refl _) _)) hx (PRow.one (TwoAt.new W x T)) (by simp; omega) (by simp; omega) fun v' w' h1 h2 _ => h v' w' h1 (((Below.refl B W).alloc hB _).trans h2)
theorem alloc_newP (w : World) (o : Obj) : (w.alloc o).heap[w.heap.size]? = some o := (MapKept.heap_alloc w o).1
/-! Behind the sort. -/
theorem sortWorld_far {w : World} {blk off q : Nat} {d : Array Pr} {os : Array Obj} {k : Nat} (hk : k < w.heap.size) (hne : k ≠ blk) : (sortWorldK encP 2 w blk off q d os).heap[k]? = w.heap[k]? := by
 unfold sortWorldK grow putRowK putRow mapBlock
 simp only
 rw [Array.getElem?_append_left (by simpa [Sort.ahead] using hk), Array.getElem?_modify, if_neg (fun e => hne e.symm)]
 rfl
theorem sortWorld_at {w : World} {blk off q : Nat} {d : Array Pr} {os : Array Obj} {cur : Array Value} {T : TypeId} (h : w.heap[blk]? = some (.cells cur T (0, 0))) : ∃ cur', cur'.size = cur.size ∧ (sortWorldK encP 2 w blk off q d os).heap[blk]? = some (.cells cur' T (0, 0)) := by
 have hk := (Array.getElem?_eq_some_iff.1 h).1
 unfold sortWorldK grow putRowK putRow mapBlock
 simp only
 rw [Array.getElem?_append_left (by simpa [Sort.ahead] using hk), Array.getElem?_modify, if_pos rfl]
 show ∃ cur', _ ∧ Option.map _ w.heap[blk]? = _
 rw [h]
 exact ⟨_, by simp [putCells], rfl⟩
theorem SWK.below {w w' : World} {blk off : Nat} {d : Array Pr} {B : Nat} (h : SWK encP 2 w blk off d w') (hB : B ≤ blk) (hBw : B ≤ w.heap.size) : Below B w w' := by
 have hs := h.le
 obtain ⟨q, os, rfl⟩ := h
 exact ⟨rfl, rfl, rfl, hs, fun k hk => sortWorld_far (by omega) (by omega)⟩
theorem RowP.of_own {B : Nat} {w : World} {g cap : Nat} {l : List Pr} (h : POwn B w (.slice (some ⟨g, 0, none⟩) l.length cap) l) (hl : l.length < 1125899906842624) : RowP w g 0 l.length ∧ SWK encP 2 w g 0 l.toArray w ∧ B ≤ g := by
 obtain ⟨_, ⟨e, _⟩ | ⟨g', cap', cur, e, h1, hh, h3, h4, h5, h6⟩⟩ := h
 · cases e
 · simp only [Value.slice.injEq, Option.some.injEq, Addr.mk.injEq] at e
   obtain ⟨⟨rfl, _⟩, _, rfl⟩ := e
   have hc := POwn.cells hh h6
   have hsz := (Array.getElem?_eq_some_iff.1 hh).1
   have fz : ∀ o, w.frozen? ⟨g, o, none⟩ = false := fun o => by simp [World.frozen?, hh]
   have H : HoldsK encP 2 w g 0 l.toArray := by
    intro t ht
    have ht2 : t < l.length * 2 := by simpa using ht
    obtain ⟨i, j, rfl, hj⟩ : ∃ i j, t = i * 2 + j ∧ j < 2 := ⟨t / 2, t % 2, by omega, by omega⟩
    have hi : i < l.length := by omega
    have e2 := hc i l[i] (List.getElem?_eq_getElem hi)
    refine ⟨?_, fz _⟩
    rw [get_flatK _ _ _ _ (by simpa using ht2), show (i * 2 + j) / 2 = i by omega, show (i * 2 + j) % 2 = j by omega]
    have el : l.toArray[i]! = l[i] := by simp [hi]
    rw [el]
    rcases (by omega : j = 0 ∨ j = 1) with rfl | rfl
    · have := e2.c0
      rw [Nat.zero_add] at this ⊢
      exact this
    · have := e2.c1
      rw [Nat.zero_add] at this ⊢
      exact this
   exact ⟨⟨⟨l.toArray, by simp, ⟨encP_k, encP_one, H, hsz⟩⟩, by omega⟩, SWK.start H, h1⟩
theorem POwn.sorted {B : Nat} {w w' : World} {g cap : Nat} {l l' : List Pr} (h : POwn B w (.slice (some ⟨g, 0, none⟩) l.length cap) l) (hl : l.length < 1125899906842624) (hS : SWK encP 2 w g 0 l'.toArray w') (he : l'.length = l.length) : POwn B w' (.slice (some ⟨g, 0, none⟩) l'.length cap) l' := by
 obtain ⟨R, _, hB⟩ := RowP.of_own h hl
 have H := R.holds hS (by simpa using he)
 obtain ⟨_, ⟨e, _⟩ | ⟨g', cap', cur, e, h1, hh, h3, h4, h5, h6⟩⟩ := h
 · cases e
 · simp only [Value.slice.injEq, Option.some.injEq, Addr.mk.injEq] at e
   obtain ⟨⟨rfl, _⟩, _, rfl⟩ := e
   obtain ⟨q, os, rfl⟩ := hS
   obtain ⟨cur', k1, k2⟩ := sortWorld_at (off := 0) (q := q) (d := l'.toArray) (os := os) hh
   refine POwn.of_cells hB k2 (by omega) h4 (by omega) fun i x hi => ?_
   have hil := (List.getElem?_eq_some_iff.1 hi).1
   have ex : l'.toArray[i]! = x := by simp [hi]
   have c0 := (cellP0 H (i := i) (by simpa using hil)).1
   have c1 := (cellP1 H (i := i) (by simpa using hil)).1
   rw [ex, Nat.zero_add] at c0 c1
   exact ⟨c0, c1⟩
end Go.Proofs.YtncnefpkfbngaaaGreatDoor

/- letters.Runes: the runes of which a text is the writing, in new memory, or none. -/
namespace Go.Proofs.YtncnefpkfbngaaaGreatDoor
open Go.RowKit Nums
set_option maxRecDepth 100000

theorem infoRune : (Tryz.prog.info? 21).map (fun i => (i.zero, i.size, i.bytes)) = some (some (.int .i32 0), 1, 4) := by kernel_rfl

/-- What a slice of runes that the call has made is good for: its value, and that it owns the numbers xs. -/
def Made (B : Nat) (w : World) (v : Value) (xs : List Int) : Prop := w.ownsRow B 21 1 v xs.length (xs.map (Value.int .i32))

/-- What is owned is owned still where nothing old was written. -/
theorem Made.below {B : Nat} {w w' : World} {v : Value} {xs : List Int} (h : Made B w v xs) (hb : Below w.heap.size w w') : Made B w' v xs := by
 obtain ⟨hl, hn | ⟨g, cap, cur, rfl, h1, hg, h2⟩⟩ := h
 · exact ⟨hl, .inl hn⟩
 · exact ⟨hl, .inr ⟨g, cap, cur, rfl, h1, (hb.block g (Array.getElem?_eq_some_iff.1 hg).1).trans hg, h2⟩⟩
theorem cell_new (w : World) (r : Int) : (w.alloc (Obj.cells #[Value.int .i32 r] 21)).cell? ⟨w.heap.size, 0, none⟩ = some (.int .i32 r) := by simp

set_option maxHeartbeats 2000000 in
theorem Runes_any (s : ByteArray) (w : World) (ht : Tabs w) (hm : s.size ≤ 9223372036854775807) (hroom : Room s.data.toList) :
 Calls Tryz.prog 34 #[.string s] w fun e w' => ∃ v, Below w.heap.size w w' ∧
  ((rs s.data.toList = none ∧ v = .slice none 0 0 ∧ e = .returned (.tuple #[v, .bool false])) ∨
   ∃ xs, rs s.data.toList = some xs ∧ e = .returned (.tuple #[v, .bool true]) ∧ Made w.heap.size w' v xs) := by
 obtain ⟨i0, hi, hz0, hz1, hz2⟩ := info_parts infoRune
 go_enter Tryz.func34, Tryz.ntmps34
 go_wp2
 go_loopw [0, 4] (fun t v wr => ∃ (m : ByteArray) (pre : List Int), t = .string m ∧ m.size + pre.length ≤ s.size ∧ Made w.heap.size wr v pre ∧ Remains s.data.toList m.data.toList pre ∧ Below w.heap.size w wr)
  (fun t _ _ => lenOf t)
 case atStart => exact ⟨s, [], rfl, by simp, World.ownsRow_nil _ _ _ _, left_start _, Below.refl _ _⟩
 case round =>
  obtain ⟨m, pre, rfl, hms, hown, hL, hbel⟩ := hrel
  have HL : Hid (Remains s.data.toList m.data.toList pre) := hL
  clear hL
  have htr : Tabs wr := ht.below hbel
  by_cases h0 : 0 < m.size
  · have hne := ne_of_size h0
    have hbd := rd_bd hne
    rw [size_length] at hbd
    have HNE : Hid (m.data.toList ≠ []) := hne
    clear hne
    generalize hr : rd m.data.toList = q at hbd
    obtain ⟨r, n⟩ := q
    have HR : Hid (rd m.data.toList = (r, n)) := hr
    clear hr
    simp only at hbd
    by_cases hn : n = 0
    · subst hn
      have HF : Hid (rs s.data.toList = none) := left_none HL.out HNE.out (by rw [HR.out])
      go_wp2_with (go_at_call 59; refine (readRune_any _ _ htr h0 (by omega)).mono ?_; rintro e w' ⟨rfl, n2, rfl⟩; rw [HR.out])
      go_ret2
      exact ⟨_, below_drewN hbel _, .inl ⟨HF.out, rfl, rfl⟩⟩
    have hn0 : ((n : Int) == 0) = false := beq_eq_false_iff_ne.2 (by omega)
    have hrm : pre.length + 1 ≤ 35184372088832 := hroom m.data.toList pre HL.out (by rw [size_length, size_length]; exact hms) HNE.out (by rw [HR.out]; exact hn)
    go_wp2_with (first
     | (go_at_call 59; refine (readRune_any _ _ htr h0 (by omega)).mono ?_; rintro e w' ⟨rfl, n2, rfl⟩; rw [HR.out])
     | (at_builtin; refine wpList_append_own _ rfl _ _ 73 rfl w.heap.size 21 i0 (.int .i32 0) 1 4 Tryz.underlying73 hi hz0 hz1 hz2 rfl (by decide) _ _ _ rfl (World.ownsRow.alloc (w := wr.drewN _) hown _) ⟨wr.heap.size, 0, none⟩ 1 1 [.int .i32 r] rfl rfl ?c1 ?c2 ?c3 ?c4 ?c5 ?_))
    case c1 =>
     intro j u hj
     match j, hj with
     | 0, hj => simp at hj; subst hj; exact cell_new (wr.drewN n2) r
    case c2 => intro u hu; simp at hu; subst hu; rfl
    case c3 => unfold maxLen; omega
    case c4 => omega
    case c5 => have := hbel.size; simp; omega
    intro v' w1 hown' hgrow _
    have hown2 : Made w.heap.size w1 v' (pre ++ [r]) := by unfold Made; simpa using hown'
    have hb1 : Below w.heap.size w w1 := ((below_drewN hbel n2).alloc (by simpa using hbel.size) _).grown hgrow (by have := hbel.size; simp; omega) (fun k hk => (World.ownsRow.lt hown k hk).1)
    clear hown' hgrow hown
    go_wp2
    go_roundw
    case rel => exact ⟨m.extract n m.size, pre ++ [r], rfl, by rw [extract_size]; simp; omega, hown2, rest_go HL.out HNE.out HR.out hn, hb1⟩
    case measure => simp only [lenOf]; rw [extract_size]; omega
  · have HN : Hid (m.data.toList = []) := nil_of_size h0
    have HF : Hid (rs s.data.toList = some pre) := left_end (by have := HL.out; rw [HN.out] at this; exact this)
    go_wp2
    go_ret2
    exact ⟨_, hbel, .inr ⟨pre, HF.out, rfl, hown⟩⟩
end Go.Proofs.YtncnefpkfbngaaaGreatDoor

/- Cut: what the seat's translation lacks is left out. -/
/- Words as runes in memory; least and alike. -/
namespace Go.Proofs.YtncnefpkfbngaaaGreatDoor
open Go.RowKit Nums Fm
set_option maxRecDepth 100000

/-- A row of runes that is read, in a block below E. -/
def RunesAt (E : Nat) (w : World) (v : Value) (xs : List Int) : Prop :=
 ∃ ad cap, v = .slice ad xs.length cap ∧ (0 < xs.length → ∃ g off, ad = some ⟨g, off, none⟩ ∧ g < E ∧ ∀ i x, xs[i]? = some x → w.cell? ⟨g, off + i, none⟩ = some (.int .i32 x))
theorem RunesAt.below {E : Nat} {w w' : World} {v : Value} {xs : List Int} (h : RunesAt E w v xs) (hb : Below E w w') : RunesAt E w' v xs := by
 obtain ⟨ad, cap, rfl, hc⟩ := h
 refine ⟨ad, cap, rfl, fun h0 => ?_⟩
 obtain ⟨g, off, rfl, hg, hx⟩ := hc h0
 exact ⟨g, off, rfl, hg, fun i x hi => (hb.cell (p := ⟨g, off + i, none⟩) hg).trans (hx i x hi)⟩
theorem RunesAt.mono {E E' : Nat} {w : World} {v : Value} {xs : List Int} (h : RunesAt E w v xs) (he : E ≤ E') : RunesAt E' w v xs := by
 obtain ⟨ad, cap, rfl, hc⟩ := h
 refine ⟨ad, cap, rfl, fun h0 => ?_⟩
 obtain ⟨g, off, rfl, hg, hx⟩ := hc h0
 exact ⟨g, off, rfl, by omega, hx⟩
/-- An entry's two cells. -/
structure EntAt (E : Nat) (w : World) (g o : Nat) (v : Value) (e : En) : Prop where
 c0 : w.cell? ⟨g, o, none⟩ = some v
 c1 : w.cell? ⟨g, o + 1, none⟩ = some (.int .i64 e.2)
 rn : RunesAt E w v e.1
/-- A row of entries that is read, all in blocks below E. -/
def ERow (E : Nat) (w : World) (v : Value) (l : List En) : Prop :=
 ∃ ad cap, v = .slice ad l.length cap ∧ l.length ≤ cap ∧ (0 < l.length → ∃ g off, ad = some ⟨g, off, none⟩ ∧ g < E ∧ ∀ i e, l[i]? = some e → ∃ u, EntAt E w g (off + i * 2) u e)
theorem EntAt.below {E : Nat} {w w' : World} {g o : Nat} {v : Value} {e : En} (h : EntAt E w g o v e) (hg : g < E) (hb : Below E w w') : EntAt E w' g o v e :=
 ⟨(hb.cell (p := ⟨g, o, none⟩) hg).trans h.c0, (hb.cell (p := ⟨g, o + 1, none⟩) hg).trans h.c1, h.rn.below hb⟩
theorem ERow.below {E : Nat} {w w' : World} {v : Value} {l : List En} (h : ERow E w v l) (hb : Below E w w') : ERow E w' v l := by
 obtain ⟨ad, cap, rfl, h1, hc⟩ := h
 refine ⟨ad, cap, rfl, h1, fun h0 => ?_⟩
 obtain ⟨g, off, rfl, hg, hx⟩ := hc h0
 refine ⟨g, off, rfl, hg, fun i e hi => ?_⟩
 obtain ⟨u, hu⟩ := hx i e hi
 exact ⟨u, hu.below hg hb⟩
theorem ERow.at {E : Nat} {w : World} {ad : Option Addr} {n cap : Nat} {l : List En} (h : ERow E w (.slice ad n cap) l) (h0 : 0 < n) : ∃ g off, ad = some ⟨g, off, none⟩ ∧ g < E ∧ n ≤ cap ∧ ∀ i e, l[i]? = some e → ∃ u, EntAt E w g (off + i * 2) u e := by
 obtain ⟨ad', cap', e, h1, hc⟩ := h
 simp only [Value.slice.injEq] at e
 obtain ⟨rfl, h2, rfl⟩ := e
 obtain ⟨g, off, h3, h4, h5⟩ := hc (by omega)
 exact ⟨g, off, h3, h4, by omega, h5⟩
theorem ERow.form {E : Nat} {w : World} {v : Value} {l : List En} (h : ERow E w v l) : ∃ ad cap, v = .slice ad l.length cap ∧ l.length ≤ cap := by
 obtain ⟨ad, cap, e, h1, _⟩ := h; exact ⟨ad, cap, e, h1⟩
theorem leastF_snoc {l : List En} {k : Nat} {e : En} (h : l[k]? = some e) (m : Int) : leastF m (l.take (k + 1)) = if e.2 < leastF m (l.take k) then e.2 else leastF m (l.take k) := by
 have key : ∀ (l : List En) (m : Int) (e : En), leastF m (l ++ [e]) = if e.2 < leastF m l then e.2 else leastF m l := by
  intro l
  induction l with
  | nil => intro m e; rfl
  | cons x r ih => intro m e; rw [List.cons_append, leastF, ih, leastF]
 rw [List.take_add_one, h]
 exact key _ _ _

theorem RunesAt.get {E : Nat} {w : World} {ad : Option Addr} {n cap : Nat} {xs : List Int} (h : RunesAt E w (.slice ad n cap) xs) {k : Nat} (hk : k < xs.length) : ∃ g off, ad = some ⟨g, off, none⟩ ∧ n = xs.length ∧ w.cell? ⟨g, off + k, none⟩ = some (.int .i32 ((xs.drop k).headD 0)) := by
 obtain ⟨ad', cap', e, hc⟩ := h
 simp only [Value.slice.injEq] at e
 obtain ⟨rfl, rfl, rfl⟩ := e
 obtain ⟨g, off, rfl, _, hx⟩ := hc (by omega)
 refine ⟨g, off, rfl, rfl, ?_⟩
 have := hx k xs[k] (List.getElem?_eq_getElem hk)
 rw [this, List.headD_eq_head?_getD, List.head?_drop, List.getElem?_eq_getElem hk]
 rfl
end Go.Proofs.YtncnefpkfbngaaaGreatDoor

/- Cut: what the seat's translation lacks is left out. -/
/- Rows of structs that the call has made, each struct as the list of its cells. -/
namespace Go.Proofs.YtncnefpkfbngaaaGreatDoor
open Go.RowKit Nums Fm
set_option maxRecDepth 100000

/-- What append asks of an element's type. -/
structure RTy (T TS : TypeId) (k bytes : Nat) : Prop where
 und : Tryz.prog.underlying TS = some (.slice T)
 inf : ∃ z, (Tryz.prog.info? T).map (fun i => (i.zero, i.size, i.bytes)) = some (some z, k, bytes) ∧ z.cells.size = k
 pos : 0 < k
 small : bytes ≤ 64
/-- A struct's cells. -/
def Cells (k : Nat) (x : List Value) : Prop := x.length = k ∧ ∀ u ∈ x, u.oneCell' = true
def GOwn (T : TypeId) (k B : Nat) (w : World) (v : Value) (xss : List (List Value)) : Prop := (∀ x ∈ xss, Cells k x) ∧ w.ownsRow B T k v xss.length xss.flatten
variable {T TS : TypeId} {k bytes B : Nat} {w w' : World} {v : Value} {xss : List (List Value)}
theorem GOwn.nil (T : TypeId) (k B : Nat) (w : World) : GOwn T k B w (.slice none 0 0) [] := ⟨by simp, World.ownsRow_nil _ _ _ _⟩
theorem GOwn.shape (h : GOwn T k B w v xss) : ∃ ad cap, v = .slice ad xss.length cap ∧ xss.length ≤ cap := by
 obtain ⟨_, hl, ⟨e, h0⟩ | ⟨g, cap, cur, rfl, _, _, h3, _⟩⟩ := h
 · exact ⟨none, 0, by rw [e, h0], by omega⟩
 · exact ⟨_, cap, rfl, h3⟩
theorem GOwn.mono {B' : Nat} (h : GOwn T k B w v xss) (hB : B' ≤ B) : GOwn T k B' w v xss := by
 obtain ⟨h0, hl, hn | ⟨g, cap, cur, rfl, h1, h2⟩⟩ := h
 · exact ⟨h0, hl, .inl hn⟩
 · exact ⟨h0, hl, .inr ⟨g, cap, cur, rfl, by omega, h2⟩⟩
/-- Its block, and that of a like type. -/
theorem GOwn.block (h : GOwn T k B w v xss) {g : Nat} (hg : v.ownBlock = some g) : B ≤ g ∧ ∃ cur, w.heap[g]? = some (.cells cur T (0, 0)) := by
 obtain ⟨_, hl, ⟨e, _⟩ | ⟨g', cap, cur, rfl, h1, h2, _⟩⟩ := h
 · rw [e] at hg; cases hg
 · simp only [Value.ownBlock, Option.some.injEq] at hg
   subst hg
   exact ⟨h1, cur, h2⟩
theorem GOwn.same (h : GOwn T k B w v xss) (e : ∀ g, v.ownBlock = some g → w'.heap[g]? = w.heap[g]?) : GOwn T k B w' v xss := by
 obtain ⟨h0, hl, hn | ⟨g, cap, cur, rfl, h1, hg, h2⟩⟩ := h
 · exact ⟨h0, hl, .inl hn⟩
 · exact ⟨h0, hl, .inr ⟨g, cap, cur, rfl, h1, (e g rfl).trans hg, h2⟩⟩
theorem GOwn.lt (h : GOwn T k B w v xss) {g : Nat} (hg : v.ownBlock = some g) : g < w.heap.size := by
 obtain ⟨_, cur, h1⟩ := h.block hg
 exact (Array.getElem?_eq_some_iff.1 h1).1
theorem GOwn.below (h : GOwn T k B w v xss) (hb : Below w.heap.size w w') : GOwn T k B w' v xss :=
 h.same fun g hg => hb.block g (h.lt hg)
theorem flat_get : ∀ (xss : List (List Value)), (∀ x ∈ xss, x.length = k) → ∀ (i j : Nat) (x : List Value) (u : Value), xss[i]? = some x → x[j]? = some u → xss.flatten[i * k + j]? = some u
 | y :: r, hk, 0, j, x, u, hi, hj => by
  simp only [List.getElem?_cons_zero, Option.some.injEq] at hi
  subst hi
  rw [List.flatten_cons, Nat.zero_mul, Nat.zero_add, List.getElem?_append_left (List.getElem?_eq_some_iff.1 hj).1]
  exact hj
 | y :: r, hk, i + 1, j, x, u, hi, hj => by
  have hy := hk y (by simp)
  rw [List.flatten_cons, List.getElem?_append_right (by rw [hy, Nat.add_mul]; omega), hy, show (i + 1) * k + j - k = i * k + j by rw [Nat.add_mul]; omega]
  exact flat_get r (fun x hx => hk x (by simp [hx])) i j x u (by simpa using hi) hj
/-- What a row's cells hold. -/
theorem GOwn.cell (h : GOwn T k B w v xss) (h0 : 0 < xss.length) : ∃ g cap, v = .slice (some ⟨g, 0, none⟩) xss.length cap ∧ g < w.heap.size ∧ B ≤ g ∧ xss.length ≤ cap ∧ ∀ i j x u, xss[i]? = some x → x[j]? = some u → w.cell? ⟨g, i * k + j, none⟩ = some u := by
 have hlen : ∀ x ∈ xss, x.length = k := fun x hx => (h.1 x hx).1
 obtain ⟨_, hl, ⟨_, e⟩ | ⟨g, cap, cur, rfl, h1, hh, h3, h4, h5, h6⟩⟩ := h
 · omega
 · refine ⟨g, cap, rfl, (Array.getElem?_eq_some_iff.1 hh).1, h1, h3, fun i j x u hi hj => ?_⟩
   have e := flat_get xss hlen i j x u hi hj
   rw [← h6, List.getElem?_take] at e
   split at e
   · simp only [World.cell?, hh]
     simpa using e
   · cases e
/-- 'append(l, x)': the struct x lies in block nb. -/
theorem gappend_run (R : RTy T TS k bytes) (hown : GOwn T k B w v xss) (hB : B ≤ w.heap.size) {x : List Value} (hx : Cells k x) {nb : Nat} (hc : ∀ j u, x[j]? = some u → w.cell? ⟨nb, j, none⟩ = some u) (h63 : xss.length < 1099511627776) (ty : TypeId) (c : Nat) :
 ∃ v' w', (Builtin.append_ #[TS, TS] ty #[v, .slice (some ⟨nb, 0, none⟩) 1 c]).run Tryz.prog w = .ok v' w' ∧ GOwn T k B w' v' (xss ++ [x]) ∧ w.grownBy w' v.ownBlock ∧ (v'.ownBlock = v.ownBlock ∨ ∃ g, v'.ownBlock = some g ∧ w.heap.size ≤ g) := by
 obtain ⟨z, hz, hzs⟩ := R.inf
 obtain ⟨i0, hi, hz0, hz1, hz2⟩ := info_parts hz
 obtain ⟨v', w', h1, h2, h3, _⟩ := run_append_own (P := Tryz.prog) w B TS ty T i0 z k bytes R.und hi hz0 hz1 hz2 hzs R.pos v xss.length xss.flatten hown.2 ⟨nb, 0, none⟩ 1 c x (by rw [hx.1]; omega) (fun j u hj => by
  have hadd : ∀ j, (⟨nb, 0, none⟩ : Addr).add j = ⟨nb, 0 + j, none⟩ := fun j => by unfold Addr.add; split <;> simp_all
  rw [hadd, Nat.zero_add]
  exact hc j u hj) hx.2 (by simp only [maxLen]; omega) (by have := R.small; calc (xss.length + 1) * bytes ≤ (xss.length + 1) * 64 := Nat.mul_le_mul_left _ this
                                                                       _ ≤ 140737488355328 := by omega) hB
 have hown' : GOwn T k B w' v' (xss ++ [x]) := by
  refine ⟨fun y hy => ?_, ?_⟩
  · rcases List.mem_append.1 hy with hy | hy
    · exact hown.1 y hy
    · rw [List.mem_singleton.1 hy]; exact hx
  · rw [List.length_append, List.flatten_append]
    simpa using h2
 refine ⟨v', w', h1, hown', h3, ?_⟩
 have hadd : ∀ j, (⟨nb, 0, none⟩ : Addr).add j = ⟨nb, j, none⟩ := fun j => by unfold Addr.add; split <;> simp_all
 have hnews : ∀ j u, x[j]? = some u → w.cell? ((⟨nb, 0, none⟩ : Addr).add j) = some u := fun j u hj => by rw [hadd]; exact hc j u hj
 have hl : x.length = 1 * i0.size := by rw [hx.1, hz1]; omega
 have hb64 : (xss.length + 1) * i0.bytes ≤ 140737488355328 := by
  rw [hz2]
  have := R.small
  calc (xss.length + 1) * bytes ≤ (xss.length + 1) * 64 := Nat.mul_le_mul_left _ this
   _ ≤ 140737488355328 := by omega
 obtain ⟨_, hlf, ⟨ev, h0⟩ | ⟨g, cap, cur, ev, hb', hh, hnc, hcm, hcs, htake⟩⟩ := id hown
 · subst ev
   rw [h0] at hb64
   have hr := run_append_nil (P := Tryz.prog) w TS ty T i0 z R.und hi hz0 ⟨nb, 0, none⟩ 1 c x hl hnews (by omega) (by omega) (by omega)
   rw [hr] at h1
   injection h1 with h1 _
   exact .inr ⟨w.heap.size, by rw [← h1]; rfl, Nat.le_refl _⟩
 · subst ev
   have hcs' : cur.size = cap * i0.size := by rw [hz1]; exact hcs
   have hlf' : xss.flatten.length = xss.length * i0.size := by rw [hz1]; exact hlf
   by_cases hroom : xss.length + 1 ≤ cap
   · have hfit : xss.length * i0.size + x.length ≤ cur.size := by rw [hl, hcs', ← Nat.add_mul]; exact Nat.mul_le_mul_right _ hroom
     have hr := run_append_room (P := Tryz.prog) w TS ty T i0 R.und hi g xss.length cap cur hh ⟨nb, 0, none⟩ 1 c x hl hnews hx.2 hroom hfit
     rw [hr] at h1
     injection h1 with h1 _
     exact .inl (by rw [← h1]; rfl)
   · have holds : ∀ j u, xss.flatten[j]? = some u → w.cell? ((⟨g, 0, none⟩ : Addr).add j) = some u := hown.2.cells (g := g) rfl
     have hr := run_append_grow (P := Tryz.prog) w TS ty T i0 z R.und hi hz0 ⟨g, 0, none⟩ xss.length cap xss.flatten hlf' holds ⟨nb, 0, none⟩ 1 c x hl hnews (by omega) (by omega) (growslice_fits (by omega) hb64)
     rw [hr] at h1
     injection h1 with h1 _
     exact .inr ⟨w.heap.size, by rw [← h1]; rfl, Nat.le_refl _⟩
theorem gBelow (h : GOwn T k B w v xss) (hg : w.grownBy w' v.ownBlock) (hB : B ≤ w.heap.size) : Below B w w' :=
 (Below.refl B w).grown hg hB (fun k hk => (World.ownsRow.lt h.2 k hk).1)
/-- The same in a walk, where x was just laid in a new block. -/
theorem append_g {W : World} {ops : Array Oper} {rest : List Oper} {o : Oper} {a : Act} {Q : Exit → Act → World → Prop} (R : RTy T TS k bytes) (hgd : o.guard = none) (s y : Operand) (x : List Value) (T2 : TypeId)
 (ho : o.op = .call { callee := .builtin .append, args := #[s, y], argTypes := #[TS, TS] }) (B nb c : Nat) (v : Value) (xss : List (List Value)) (hs : a.eval s = v) (hown : GOwn T k B W v xss) (hy : a.eval y = .slice (some ⟨nb, 0, none⟩) 1 c) (hnb : nb = W.heap.size) (hx : Cells k x) (h63 : xss.length < 1099511627776) (hB : B ≤ W.heap.size)
 (h : ∀ v' w', GOwn T k B w' v' (xss ++ [x]) → Below B W w' → (W.alloc (.cells x.toArray T2)).grownBy w' v.ownBlock → wpList Tryz.prog ops Q rest (a.put o.dst v') w') : wpList Tryz.prog ops Q (o :: rest) a (W.alloc (.cells x.toArray T2)) := by
 subst hnb
 have hbA : Below W.heap.size W (W.alloc (.cells x.toArray T2)) := (Below.refl _ W).alloc (Nat.le_refl _) _
 obtain ⟨v', w', h1, h2, h3, _⟩ := gappend_run R (hown.below hbA) (by simp; omega) hx (nb := W.heap.size) (fun j u hj => by simpa using hj) h63 o.type c
 refine wpList_plain hgd fun _ hK => ?_
 unfold Oper.wp execOp
 simp only [ho, resolve, invoke, builtin, Sem.run_bind, Sem.run_pure, Result.andThen_ok, List.map_toArray, List.map_cons, List.map_nil, hs, hy, h1]
 exact hK _ _ (h v' w' h2 (((Below.refl B W).alloc hB _).trans (gBelow (hown.below hbA) h3 (by simp; omega))) h3)
theorem rtyA : RTy 110 86 3 24 := ⟨by kernel_rfl, ⟨.agg #[.int .i32 0, .int .i64 0, .int .i64 0], by kernel_rfl, rfl⟩, by decide, by decide⟩
theorem rtyS : RTy 88 61 3 40 := ⟨by kernel_rfl, ⟨.agg #[.bool false, .int .i64 0, .slice none 0 0], by kernel_rfl, rfl⟩, by decide, by decide⟩
end Go.Proofs.YtncnefpkfbngaaaGreatDoor
