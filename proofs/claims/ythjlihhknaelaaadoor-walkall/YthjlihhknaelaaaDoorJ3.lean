/- Texts that were written apart, joined. -/
import Derived.Test.YthjlihhknaelaaaDoorJ2
import Derived.DeepKeys4
import Derived.Maps.Keyed
import Derived.Deep.RegionHeld3
/- Cut: what the seat's translation lacks is left out. -/
/- Rows of structs that the call has made, each struct as the list of its cells. -/
namespace Go.Proofs.YthjlihhknaelaaaDoor
open Go.RowKit Nums Fm
set_option maxRecDepth 100000

/-- What append asks of an element's type. -/
structure RTy (T TS : TypeId) (k bytes : Nat) : Prop where
  und : Tryd.prog.underlying TS = some (.slice T)
  inf : ∃ z, (Tryd.prog.info? T).map (fun i => (i.zero, i.size, i.bytes)) = some (some z, k, bytes) ∧ z.cells.size = k
  pos : 0 < k
  small : bytes ≤ 64
/-- A struct's cells. -/
def Cells (k : Nat) (x : List Value) : Prop := x.length = k ∧ ∀ u ∈ x, u.oneCell' = true
def GOwn (T : TypeId) (k B : Nat) (w : World) (v : Value) (xss : List (List Value)) : Prop := (∀ x ∈ xss, Cells k x) ∧ w.ownsRow B T k v xss.length xss.flatten
variable {T TS : TypeId} {k bytes B : Nat} {w w' : World} {v : Value} {xss : List (List Value)}
theorem GOwn.nil (T : TypeId) (k B : Nat) (w : World) : GOwn T k B w (.slice none 0 0) [] := ⟨by simp, World.ownsRow_nil _ _ _ _⟩
theorem GOwn.shape (h : GOwn T k B w v xss) : ∃ ad cap, v = .slice ad xss.length cap ∧ xss.length ≤ cap := by
  obtain ⟨_, hl, ⟨e, h0⟩ | ⟨g, cap, cur, rfl, _, _, h3, _⟩⟩ := h
  · exact ⟨none, 0, by rw [e, h0], by omega⟩
  · exact ⟨_, cap, rfl, h3⟩
theorem GOwn.mono {B' : Nat} (h : GOwn T k B w v xss) (hB : B' ≤ B) : GOwn T k B' w v xss := by
  obtain ⟨h0, hl, hn | ⟨g, cap, cur, rfl, h1, h2⟩⟩ := h
  · exact ⟨h0, hl, .inl hn⟩
  · exact ⟨h0, hl, .inr ⟨g, cap, cur, rfl, by omega, h2⟩⟩
/-- Its block, and that of a like type. -/
theorem GOwn.block (h : GOwn T k B w v xss) {g : Nat} (hg : v.ownBlock = some g) : B ≤ g ∧ ∃ cur, w.heap[g]? = some (.cells cur T (0, 0)) := by
  obtain ⟨_, hl, ⟨e, _⟩ | ⟨g', cap, cur, rfl, h1, h2, _⟩⟩ := h
  · rw [e] at hg; cases hg
  · simp only [Value.ownBlock, Option.some.injEq] at hg
    subst hg
    exact ⟨h1, cur, h2⟩
theorem GOwn.same (h : GOwn T k B w v xss) (e : ∀ g, v.ownBlock = some g → w'.heap[g]? = w.heap[g]?) : GOwn T k B w' v xss := by
  obtain ⟨h0, hl, hn | ⟨g, cap, cur, rfl, h1, hg, h2⟩⟩ := h
  · exact ⟨h0, hl, .inl hn⟩
  · exact ⟨h0, hl, .inr ⟨g, cap, cur, rfl, h1, (e g rfl).trans hg, h2⟩⟩
theorem GOwn.lt (h : GOwn T k B w v xss) {g : Nat} (hg : v.ownBlock = some g) : g < w.heap.size := by
  obtain ⟨_, cur, h1⟩ := h.block hg
  exact (Array.getElem?_eq_some_iff.1 h1).1
theorem GOwn.below (h : GOwn T k B w v xss) (hb : Below w.heap.size w w') : GOwn T k B w' v xss :=
  h.same fun g hg => hb.block g (h.lt hg)
theorem flat_get : ∀ (xss : List (List Value)), (∀ x ∈ xss, x.length = k) → ∀ (i j : Nat) (x : List Value) (u : Value), xss[i]? = some x → x[j]? = some u → xss.flatten[i * k + j]? = some u
  | y :: r, hk, 0, j, x, u, hi, hj => by
    simp only [List.getElem?_cons_zero, Option.some.injEq] at hi
    subst hi
    rw [List.flatten_cons, Nat.zero_mul, Nat.zero_add, List.getElem?_append_left (List.getElem?_eq_some_iff.1 hj).1]
    exact hj
  | y :: r, hk, i + 1, j, x, u, hi, hj => by
    have hy := hk y (by simp)
    rw [List.flatten_cons, List.getElem?_append_right (by rw [hy, Nat.add_mul]; omega), hy, show (i + 1) * k + j - k = i * k + j by rw [Nat.add_mul]; omega]
    exact flat_get r (fun x hx => hk x (by simp [hx])) i j x u (by simpa using hi) hj
/-- What a row's cells hold. -/
theorem GOwn.cell (h : GOwn T k B w v xss) (h0 : 0 < xss.length) : ∃ g cap, v = .slice (some ⟨g, 0, none⟩) xss.length cap ∧ g < w.heap.size ∧ B ≤ g ∧ xss.length ≤ cap ∧ ∀ i j x u, xss[i]? = some x → x[j]? = some u → w.cell? ⟨g, i * k + j, none⟩ = some u := by
  have hlen : ∀ x ∈ xss, x.length = k := fun x hx => (h.1 x hx).1
  obtain ⟨_, hl, ⟨_, e⟩ | ⟨g, cap, cur, rfl, h1, hh, h3, h4, h5, h6⟩⟩ := h
  · omega
  · refine ⟨g, cap, rfl, (Array.getElem?_eq_some_iff.1 hh).1, h1, h3, fun i j x u hi hj => ?_⟩
    have e := flat_get xss hlen i j x u hi hj
    rw [← h6, List.getElem?_take] at e
    split at e
    · simp only [World.cell?, hh]
      simpa using e
    · cases e
/-- 'append(l, x)': the struct x lies in block nb. -/
theorem gappend_run (R : RTy T TS k bytes) (hown : GOwn T k B w v xss) (hB : B ≤ w.heap.size) {x : List Value} (hx : Cells k x) {nb : Nat} (hc : ∀ j u, x[j]? = some u → w.cell? ⟨nb, j, none⟩ = some u) (h63 : xss.length < 1099511627776) (ty : TypeId) (c : Nat) :
    ∃ v' w', (Builtin.append_ #[TS, TS] ty #[v, .slice (some ⟨nb, 0, none⟩) 1 c]).run Tryd.prog w = .ok v' w' ∧ GOwn T k B w' v' (xss ++ [x]) ∧ w.grownBy w' v.ownBlock ∧ (v'.ownBlock = v.ownBlock ∨ ∃ g, v'.ownBlock = some g ∧ w.heap.size ≤ g) := by
  obtain ⟨z, hz, hzs⟩ := R.inf
  obtain ⟨i0, hi, hz0, hz1, hz2⟩ := info_parts hz
  obtain ⟨v', w', h1, h2, h3, _⟩ := run_append_own (P := Tryd.prog) w B TS ty T i0 z k bytes R.und hi hz0 hz1 hz2 hzs R.pos v xss.length xss.flatten hown.2 ⟨nb, 0, none⟩ 1 c x (by rw [hx.1]; omega) (fun j u hj => by
    have hadd : ∀ j, (⟨nb, 0, none⟩ : Addr).add j = ⟨nb, 0 + j, none⟩ := fun j => by unfold Addr.add; split <;> simp_all
    rw [hadd, Nat.zero_add]
    exact hc j u hj) hx.2 (by simp only [maxLen]; omega) (by have := R.small; calc (xss.length + 1) * bytes ≤ (xss.length + 1) * 64 := Nat.mul_le_mul_left _ this
                                                                         _ ≤ 140737488355328 := by omega) hB
  have hown' : GOwn T k B w' v' (xss ++ [x]) := by
    refine ⟨fun y hy => ?_, ?_⟩
    · rcases List.mem_append.1 hy with hy | hy
      · exact hown.1 y hy
      · rw [List.mem_singleton.1 hy]; exact hx
    · rw [List.length_append, List.flatten_append]
      simpa using h2
  refine ⟨v', w', h1, hown', h3, ?_⟩
  have hadd : ∀ j, (⟨nb, 0, none⟩ : Addr).add j = ⟨nb, j, none⟩ := fun j => by unfold Addr.add; split <;> simp_all
  have hnews : ∀ j u, x[j]? = some u → w.cell? ((⟨nb, 0, none⟩ : Addr).add j) = some u := fun j u hj => by rw [hadd]; exact hc j u hj
  have hl : x.length = 1 * i0.size := by rw [hx.1, hz1]; omega
  have hb64 : (xss.length + 1) * i0.bytes ≤ 140737488355328 := by
    rw [hz2]
    have := R.small
    calc (xss.length + 1) * bytes ≤ (xss.length + 1) * 64 := Nat.mul_le_mul_left _ this
      _ ≤ 140737488355328 := by omega
  obtain ⟨_, hlf, ⟨ev, h0⟩ | ⟨g, cap, cur, ev, hb', hh, hnc, hcm, hcs, htake⟩⟩ := id hown
  · subst ev
    rw [h0] at hb64
    have hr := run_append_nil (P := Tryd.prog) w TS ty T i0 z R.und hi hz0 ⟨nb, 0, none⟩ 1 c x hl hnews (by omega) (by omega) (by omega)
    rw [hr] at h1
    injection h1 with h1 _
    exact .inr ⟨w.heap.size, by rw [← h1]; rfl, Nat.le_refl _⟩
  · subst ev
    have hcs' : cur.size = cap * i0.size := by rw [hz1]; exact hcs
    have hlf' : xss.flatten.length = xss.length * i0.size := by rw [hz1]; exact hlf
    by_cases hroom : xss.length + 1 ≤ cap
    · have hfit : xss.length * i0.size + x.length ≤ cur.size := by rw [hl, hcs', ← Nat.add_mul]; exact Nat.mul_le_mul_right _ hroom
      have hr := run_append_room (P := Tryd.prog) w TS ty T i0 R.und hi g xss.length cap cur hh ⟨nb, 0, none⟩ 1 c x hl hnews hx.2 hroom hfit
      rw [hr] at h1
      injection h1 with h1 _
      exact .inl (by rw [← h1]; rfl)
    · have holds : ∀ j u, xss.flatten[j]? = some u → w.cell? ((⟨g, 0, none⟩ : Addr).add j) = some u := hown.2.cells (g := g) rfl
      have hr := run_append_grow (P := Tryd.prog) w TS ty T i0 z R.und hi hz0 ⟨g, 0, none⟩ xss.length cap xss.flatten hlf' holds ⟨nb, 0, none⟩ 1 c x hl hnews (by omega) (by omega) (growslice_fits (by omega) hb64)
      rw [hr] at h1
      injection h1 with h1 _
      exact .inr ⟨w.heap.size, by rw [← h1]; rfl, Nat.le_refl _⟩
theorem gBelow (h : GOwn T k B w v xss) (hg : w.grownBy w' v.ownBlock) (hB : B ≤ w.heap.size) : Below B w w' :=
  (Below.refl B w).grown hg hB (fun k hk => (World.ownsRow.lt h.2 k hk).1)
/-- The same in a walk, where x was just laid in a new block. -/
theorem append_g {W : World} {ops : Array Oper} {rest : List Oper} {o : Oper} {a : Act} {Q : Exit → Act → World → Prop} (R : RTy T TS k bytes) (hgd : o.guard = none) (s y : Operand) (x : List Value) (T2 : TypeId)
    (ho : o.op = .call { callee := .builtin .append, args := #[s, y], argTypes := #[TS, TS] }) (B nb c : Nat) (v : Value) (xss : List (List Value)) (hs : a.eval s = v) (hown : GOwn T k B W v xss) (hy : a.eval y = .slice (some ⟨nb, 0, none⟩) 1 c) (hnb : nb = W.heap.size) (hx : Cells k x) (h63 : xss.length < 1099511627776) (hB : B ≤ W.heap.size)
    (h : ∀ v' w', GOwn T k B w' v' (xss ++ [x]) → Below B W w' → (W.alloc (.cells x.toArray T2)).grownBy w' v.ownBlock → wpList Tryd.prog ops Q rest (a.put o.dst v') w') : wpList Tryd.prog ops Q (o :: rest) a (W.alloc (.cells x.toArray T2)) := by
  subst hnb
  have hbA : Below W.heap.size W (W.alloc (.cells x.toArray T2)) := (Below.refl _ W).alloc (Nat.le_refl _) _
  obtain ⟨v', w', h1, h2, h3, _⟩ := gappend_run R (hown.below hbA) (by simp; omega) hx (nb := W.heap.size) (fun j u hj => by simpa using hj) h63 o.type c
  refine wpList_plain hgd fun _ hK => ?_
  unfold Oper.wp execOp
  simp only [ho, resolve, invoke, builtin, Sem.run_bind, Sem.run_pure, Result.andThen_ok, List.map_toArray, List.map_cons, List.map_nil, hs, hy, h1]
  exact hK _ _ (h v' w' h2 (((Below.refl B W).alloc hB _).trans (gBelow (hown.below hbA) h3 (by simp; omega))) h3)
theorem rtyA : RTy 58 49 3 24 := ⟨by kernel_rfl, ⟨.agg #[.int .i32 0, .int .i64 0, .int .i64 0], by kernel_rfl, rfl⟩, by decide, by decide⟩
theorem rtyS : RTy 51 45 3 40 := ⟨by kernel_rfl, ⟨.agg #[.bool false, .int .i64 0, .slice none 0 0], by kernel_rfl, rfl⟩, by decide, by decide⟩
end Go.Proofs.YthjlihhknaelaaaDoor

/- Cut: what the seat's translation lacks is left out. -/
/- Maps of the builder, whose keys are structs: what a block holds, as a list of keys and numbers; what a look-up and a store of a new key do. -/
namespace Go.Proofs.YthjlihhknaelaaaDoor
open Go.RowKit Nums Fm Go.Maps Go.MapKept
set_option maxRecDepth 100000

theorem laidOutF : laidOutB Tryd.prog = true := by kernel_rfl
/-- A state's key: final, out, the number of its arcs. -/
abbrev SK := Bool × Int × Nat
/-- A list's key: the number of those ahead, the last arc. -/
abbrev LK := Nat × Arc
def valK (x : SK) : Value := .agg #[.bool x.1, .int .i64 x.2.1, .int .i64 x.2.2]
def valL (x : LK) : Value := .agg #[.int .i64 x.1, .int .i32 x.2.label, .int .i64 x.2.out, .int .i64 x.2.to]
/-- Numbers that fit. -/
def Fits64 (n : Int) : Prop := -9223372036854775808 ≤ n ∧ n ≤ 9223372036854775807
def Fits32 (n : Int) : Prop := -2147483648 ≤ n ∧ n ≤ 2147483647
theorem wf64 {n : Int} (h : Fits64 n) : (Lit.int .i64 n).wf = true := by
  obtain ⟨h1, h2⟩ := h
  simp [Lit.wf, IntKind.min, IntKind.max, IntKind.bits, IntKind.signed]
  omega
theorem wf32 {n : Int} (h : Fits32 n) : (Lit.int .i32 n).wf = true := by
  obtain ⟨h1, h2⟩ := h
  simp [Lit.wf, IntKind.min, IntKind.max, IntKind.bits, IntKind.signed]
  omega
theorem typesF : Tryd.prog.types.size + 1 = 4 + (Tryd.prog.types.size - 3) := by
  have : 3 ≤ Tryd.prog.types.size := of_decide_eq_true (by kernel_rfl)
  omega
theorem cellsArc : Tryd.prog.cellsOf 58 = 3 := by kernel_rfl
theorem cellsInt : Tryd.prog.cellsOf 3 = 1 := by kernel_rfl
theorem cellsBool : Tryd.prog.cellsOf 4 = 1 := by kernel_rfl
theorem cellsRune : Tryd.prog.cellsOf 21 = 1 := by kernel_rfl
theorem lits_int (d : Nat) {n : Int} (h : (Lit.int .i64 n).wf = true) : Tryd.prog.keyLits (d + 1) 3 [.int .i64 n] = some [.int .i64 n] := by
  unfold Program.keyLits
  rw [Tryd.underlying3]
  exact if_pos ⟨rfl, h⟩
theorem lits_rune (d : Nat) {n : Int} (h : (Lit.int .i32 n).wf = true) : Tryd.prog.keyLits (d + 1) 21 [.int .i32 n] = some [.int .i32 n] := by
  unfold Program.keyLits
  rw [Tryd.underlying21]
  exact if_pos ⟨rfl, h⟩
theorem lits_bool (d : Nat) (b : Bool) : Tryd.prog.keyLits (d + 1) 4 [.bool b] = some [.bool b] := by
  unfold Program.keyLits
  rw [Tryd.underlying4]
theorem lits_A (d : Nat) {a b c : Int} (h1 : (Lit.int .i32 a).wf = true) (h2 : (Lit.int .i64 b).wf = true) (h3 : (Lit.int .i64 c).wf = true) : Tryd.prog.keyLits (d + 2) 58 [.int .i32 a, .int .i64 b, .int .i64 c] = some [.int .i32 a, .int .i64 b, .int .i64 c] := by
  unfold Program.keyLits
  rw [Tryd.underlying58]
  refine (if_pos ⟨cellsArc.symm, by simp⟩).trans ?_
  simp only [List.mapM_cons, List.mapM_nil, cellsRune, cellsInt, List.drop_zero, List.drop_succ_cons, List.take_succ_cons, List.take_zero, lits_rune d h1, lits_int d h2, lits_int d h3]
  rfl
/-- Block b is a map whose entries are m, in their order. -/
def KMapAt {κ : Type} (kt : TypeId) (K : κ → Value) (w : World) (b : Nat) (m : List (κ × Nat)) : Prop :=
  ∃ es clock, w.heap[b]? = some (.map es clock) ∧ es.toList.map (fun e => (e.key, e.val)) = m.map (fun p => (K p.1, Value.int .i64 p.2)) ∧ ∀ p ∈ m, ∃ l, keyOf Tryd.prog kt (K p.1) = some l
section
variable {κ : Type} {kt t et : TypeId} {K : κ → Value} {w w' : World} {b : Nat} {m : List (κ × Nat)}
theorem KMapAt.same (h : KMapAt kt K w b m) (e : w'.heap[b]? = w.heap[b]?) : KMapAt kt K w' b m := by
  obtain ⟨es, clock, hb, r⟩ := h; exact ⟨es, clock, e.trans hb, r⟩
theorem KMapAt.lt (h : KMapAt kt K w b m) : b < w.heap.size := by
  obtain ⟨es, clock, hb, _⟩ := h; exact (Array.getElem?_eq_some_iff.1 hb).1
theorem KMapAt.obj (h : KMapAt kt K w b m) : ∃ es clock, w.heap[b]? = some (.map es clock) := by
  obtain ⟨es, clock, hb, _⟩ := h; exact ⟨es, clock, hb⟩
theorem KMapAt.new (w : World) : KMapAt kt K (w.alloc (.map #[] 0)) w.heap.size [] := ⟨#[], 0, (MapKept.heap_alloc w _).1, rfl, by simp⟩
theorem KMapAt.entry {es : Array MapEntry} (h : es.toList.map (fun e => (e.key, e.val)) = m.map (fun p => (K p.1, Value.int .i64 p.2))) {j : Nat} {e : MapEntry} (he : es.toList[j]? = some e) : ∃ p, m[j]? = some p ∧ e.key = K p.1 ∧ e.val = .int .i64 p.2 := by
  have h2 := congrArg (·[j]?) h
  simp only [List.getElem?_map, he, Option.map_some] at h2
  cases hm : m[j]? with
  | none => rw [hm] at h2; simp at h2
  | some p =>
    rw [hm] at h2
    simp only [Option.map_some, Option.some.injEq, Prod.mk.injEq] at h2
    exact ⟨p, rfl, h2.1, h2.2⟩
theorem KMapAt.keyed {es : Array MapEntry} (h : es.toList.map (fun e => (e.key, e.val)) = m.map (fun p => (K p.1, Value.int .i64 p.2))) (hk : ∀ p ∈ m, ∃ l, keyOf Tryd.prog kt (K p.1) = some l) : ∀ e ∈ es.toList, ∃ l, keyOf Tryd.prog kt e.key = some l := by
  intro e he
  obtain ⟨j, hj⟩ := List.mem_iff_getElem?.1 he
  obtain ⟨p, hp, h1, _⟩ := KMapAt.entry h hj
  rw [h1]
  exact hk p (List.mem_of_getElem? hp)
/-- 'v, ok := m[x]'. -/
theorem KMapAt.look (h : KMapAt kt K w b m) (hK : Keyed Tryd.prog kt) (ht : Tryd.prog.underlying t = some (.map kt 3)) {x : κ} {l : Lit} (hx : keyOf Tryd.prog kt (K x) = some l) (hinj : ∀ y, K y = K x → y = x) :
    ((∀ n, (x, n) ∉ m) ∧ (Instr.lookup t (.map (some b)) (K x) true).run Tryd.prog w = .ok (.tuple #[.int .i64 0, .bool false]) w) ∨
    ∃ n, (x, n) ∈ m ∧ (Instr.lookup t (.map (some b)) (K x) true).run Tryd.prog w = .ok (.tuple #[.int .i64 n, .bool true]) w := by
  obtain ⟨es, clock, hb, hm, hk⟩ := h
  have hz : (zeroValue 3).run Tryd.prog w = .ok (.int .i64 0) w := by kernel_rfl
  rcases hK.find w hx es.toList (KMapAt.keyed hm hk) with ⟨h1, h2⟩ | ⟨j, e, h1, h2, h3⟩
  · refine .inl ⟨fun n hn => ?_, ?_⟩
    · obtain ⟨j, hj⟩ := List.mem_iff_getElem?.1 hn
      have h4 := congrArg (·[j]?) hm
      simp only [List.getElem?_map, hj, Option.map_some] at h4
      cases he : es.toList[j]? with
      | none => rw [he] at h4; simp at h4
      | some e =>
        rw [he] at h4
        simp only [Option.map_some, Option.some.injEq, Prod.mk.injEq] at h4
        exact h2 e (List.mem_of_getElem? he) h4.1
    · simp [Instr.lookup, run_underlying ht, MapKept.run_getObj_map hb, hK.check w _ hx, h1, hz, Result.andThen]
  · obtain ⟨p, hp, h4, h5⟩ := KMapAt.entry hm h2
    have hpx : p.1 = x := hinj _ (h4.symm.trans h3)
    refine .inr ⟨p.2, ?_, ?_⟩
    · rw [← hpx]; exact List.mem_of_getElem? hp
    · simp [Instr.lookup, run_underlying ht, MapKept.run_getObj_map hb, hK.check w _ hx, h1, h5, Result.andThen]
theorem KMapAt.look_new (h : KMapAt kt K w b m) (hK : Keyed Tryd.prog kt) (ht : Tryd.prog.underlying t = some (.map kt 3)) {x : κ} {l : Lit} (hx : keyOf Tryd.prog kt (K x) = some l) (hinj : ∀ y, K y = K x → y = x) (hn : ∀ n, (x, n) ∉ m) :
    (Instr.lookup t (.map (some b)) (K x) true).run Tryd.prog w = .ok (.tuple #[.int .i64 0, .bool false]) w := by
  rcases h.look hK ht hx hinj with ⟨_, h1⟩ | ⟨n, h1, _⟩
  · exact h1
  · exact absurd h1 (hn n)
theorem KMapAt.look_old (h : KMapAt kt K w b m) (hK : Keyed Tryd.prog kt) (ht : Tryd.prog.underlying t = some (.map kt 3)) {x : κ} {l : Lit} (hx : keyOf Tryd.prog kt (K x) = some l) (hinj : ∀ y, K y = K x → y = x) {n : Nat} (hn : (x, n) ∈ m) (hu : ∀ n', (x, n') ∈ m → n' = n) :
    (Instr.lookup t (.map (some b)) (K x) true).run Tryd.prog w = .ok (.tuple #[.int .i64 n, .bool true]) w := by
  rcases h.look hK ht hx hinj with ⟨h1, _⟩ | ⟨n', h1, h2⟩
  · exact absurd hn (h1 n)
  · rw [hu n' h1] at h2; exact h2
/-- 'm[x] = n', x new. -/
theorem KMapAt.store (h : KMapAt kt K w b m) (hK : Keyed Tryd.prog kt) (ht : Tryd.prog.underlying t = some (.map kt 3)) {x : κ} {l : Lit} (hx : keyOf Tryd.prog kt (K x) = some l) (hinj : ∀ y, K y = K x → y = x) (hnew : ∀ n, (x, n) ∉ m) (n : Nat) :
    ∃ w', (Instr.mapUpdate t (.map (some b)) (K x) (.int .i64 n)).run Tryd.prog w = .ok () w' ∧ KMapAt kt K w' b (m ++ [(x, n)]) ∧ w'.os = w.os ∧ w'.tape = w.tape ∧ w'.output = w.output ∧ w'.heap.size = w.heap.size ∧ ∀ k, k ≠ b → w'.heap[k]? = w.heap[k]? := by
  obtain ⟨es, clock, hb, hm, hk⟩ := h
  rcases hK.find w hx es.toList (KMapAt.keyed hm hk) with ⟨h1, h2⟩ | ⟨j, e, h1, h2, h3⟩
  · refine ⟨{ w with heap := w.heap.setIfInBounds b (.map (es.push ⟨K x, .int .i64 n, clock⟩) (clock + 1)) }, ?_, ⟨es.push ⟨K x, .int .i64 n, clock⟩, clock + 1, (heap_set hb).1, by simp [hm], fun p hp => ?_⟩, rfl, rfl, rfl, by simp, fun i hi => (heap_set hb).2 i hi⟩
    · simp [Instr.mapUpdate, run_underlying ht, MapKept.run_getObj_map hb, hK.check w _ hx, h1, MapKept.run_setObj_map _ hb, Result.andThen]
    · rcases List.mem_append.1 hp with hp | hp
      · exact hk p hp
      · rw [List.mem_singleton.1 hp]; exact ⟨l, hx⟩
  · obtain ⟨p, hp, h4, h5⟩ := KMapAt.entry hm h2
    have hpx : p.1 = x := hinj _ (h4.symm.trans h3)
    exact absurd (show (x, p.2) ∈ m by rw [← hpx]; exact List.mem_of_getElem? hp) (hnew p.2)
theorem KMapAt.len (h : KMapAt kt K w b m) (ht : Tryd.prog.underlying t = some (.map kt 3)) (ty : TypeId) : (Builtin.len_ #[t] ty #[.map (some b)]).run Tryd.prog w = .ok (.int .i64 (m.length : Int)) w := by
  obtain ⟨es, clock, hb, hm, _⟩ := h
  have hl : es.size = m.length := by simpa using congrArg List.length hm
  simp [Builtin.len_, run_underlying ht, MapKept.run_getObj_map hb, Result.andThen, goInt, hl]
end
theorem valK_inj {x y : SK} (h : valK y = valK x) : y = x := by
  obtain ⟨a, b, c⟩ := x
  obtain ⟨a', b', c'⟩ := y
  simp [valK] at h
  obtain ⟨h1, h2, h3⟩ := h
  subst h1; subst h2; rw [Int.ofNat_inj.1 h3]
theorem valL_inj {x y : LK} (h : valL y = valL x) : y = x := by
  obtain ⟨a, b, c, d⟩ := x
  obtain ⟨a', b', c', d'⟩ := y
  simp [valL] at h
  obtain ⟨h1, h2, h3, h4⟩ := h
  subst h2; subst h3; rw [Int.ofNat_inj.1 h1, Int.ofNat_inj.1 h4]
end Go.Proofs.YthjlihhknaelaaaDoor

/- Regions that draw their order, operation by operation. -/
namespace Go.Proofs.YthjlihhknaelaaaDoor
open Go.RowKit
set_option maxRecDepth 100000
variable {P : Program} {md : Region.Mode} {ops : Array Oper} {Q : Exit → Act → World → Prop} {S : World → Prop}

theorem region_at {id : Nat} {a : Act} {w : World} (k : Nat) (hk : ops.size = k) (hm : P.follows .mixedOrders = true) (hS : S w.drew) (h : S w.drew → wpAnyH P .any ops Q S k (Array.replicate k false) a w.drew) : (Code.region id ops true).wp P Q a w := by
  subst hk; exact wp_region_held_drew hm hS h
theorem take_at {i : Nat} {oi : Oper} {v : Value} {fuel : Nat} {listed : Array Bool} {tmps : Array Value} {df : List Deferred} {w : World} (t : Tmp) (hi : ops[i]? = some oi) (hd : oi.dst = some t)
    (hs : Region.noSelect ops = true) (hf : Region.free md ops listed i = true) (hr : (Region.ready md ops listed).contains i = true)
    (hQ : ∀ c a w, Q (.panic c) (a.put oi.dst v) w → Q (.panic c) a w) (hw : Region.wanted oi (yielded ops tmps) = true) (hy : ∀ w, S w → (execOp (Act.eval { tmps := tmps, defers := df }) oi).run P w = .ok (.value v) w) (hS : S w)
    (h : wpAnyH P md ops Q S fuel (listed.setIfInBounds i true) { tmps := tmps.setIfInBounds t v, defers := df } w) : wpAnyH P md ops Q S (fuel + 1) listed { tmps := tmps, defers := df } w := by
  refine wpAnyH_take hi hs hf hr hQ (.inl ⟨hw, hy⟩) hS ?_
  rw [hd]; exact h
/-- One operation that may come up alone, and gives a value. -/
theorem one_value {i : Nat} {o : Oper} {fuel : Nat} {listed : Array Bool} {tmps : Array Value} {df : List Deferred} {w w' : World} {v : Value} (t : Tmp) (hr : Region.ready md ops listed = [i]) (ho : ops[i]? = some o) (hd : o.dst = some t) (hw : Region.wanted o (yielded ops tmps) = true)
    (hrun : (execOp (Act.eval { tmps := tmps, defers := df }) o).run P w = .ok (.value v) w') (hS : S w') (h : S w' → wpAnyH P md ops Q S fuel (listed.setIfInBounds i true) { tmps := tmps.setIfInBounds t v, defers := df } w') : wpAnyH P md ops Q S (fuel + 1) listed { tmps := tmps, defers := df } w := by
  refine wpAnyH_ready hr (by simp) (AllReadyH.cons ho (fun K hK => ?_) AllReadyH.nil)
  rw [if_pos hw]
  unfold Oper.wp
  rw [hrun, Oper.upon_value, hd]
  exact hK.out _ _ hS h
/-- One of two, each of which gives a value. -/
theorem two_value {i j : Nat} {o o' : Oper} {fuel : Nat} {listed : Array Bool} {tmps : Array Value} {df : List Deferred} {w w1 w2 : World} {v v' : Value} (t t' : Tmp) (hr : Region.ready md ops listed = [i, j]) (ho : ops[i]? = some o) (ho' : ops[j]? = some o') (hd : o.dst = some t) (hd' : o'.dst = some t') (hw : Region.wanted o (yielded ops tmps) = true) (hw' : Region.wanted o' (yielded ops tmps) = true)
    (hrun : (execOp (Act.eval { tmps := tmps, defers := df }) o).run P w = .ok (.value v) w1) (hS : S w1) (h : S w1 → wpAnyH P md ops Q S fuel (listed.setIfInBounds i true) { tmps := tmps.setIfInBounds t v, defers := df } w1)
    (hrun' : (execOp (Act.eval { tmps := tmps, defers := df }) o').run P w = .ok (.value v') w2) (hS' : S w2) (h' : S w2 → wpAnyH P md ops Q S fuel (listed.setIfInBounds j true) { tmps := tmps.setIfInBounds t' v', defers := df } w2) : wpAnyH P md ops Q S (fuel + 1) listed { tmps := tmps, defers := df } w := by
  refine wpAnyH_ready hr (by simp) (AllReadyH.cons ho (fun K hK => ?_) (AllReadyH.cons ho' (fun K hK => ?_) AllReadyH.nil))
  · rw [if_pos hw]
    unfold Oper.wp
    rw [hrun, Oper.upon_value, hd]
    exact hK.out _ _ hS h
  · rw [if_pos hw']
    unfold Oper.wp
    rw [hrun', Oper.upon_value, hd']
    exact hK.out _ _ hS' h'
/-- One operation that may come up alone, whatever it does. -/
theorem one_at {i : Nat} {o : Oper} {fuel : Nat} {listed : Array Bool} {tmps : Array Value} {df : List Deferred} {w : World} (t : Tmp) (hr : Region.ready md ops listed = [i]) (ho : ops[i]? = some o) (hd : o.dst = some t) (hw : Region.wanted o (yielded ops tmps) = true)
    (h : ∀ K : Act → World → Prop, (∀ v w', S w' → (S w' → wpAnyH P md ops Q S fuel (listed.setIfInBounds i true) { tmps := tmps.setIfInBounds t v, defers := df } w') → K (Act.put { tmps := tmps, defers := df } o.dst v) w') → o.wp P { tmps := tmps, defers := df } w K Q) : wpAnyH P md ops Q S (fuel + 1) listed { tmps := tmps, defers := df } w := by
  refine wpAnyH_ready hr (by simp) (AllReadyH.cons ho (fun K hK => ?_) AllReadyH.nil)
  rw [if_pos hw]
  refine h K fun v w' hS h => ?_
  rw [hd]
  exact hK.out _ _ hS h
theorem triv_facts {w : World} (_ : (fun _ : World => True) w) : True := trivial
/-- One of two, whatever they do. -/
theorem two_at {i j : Nat} {o o' : Oper} {fuel : Nat} {listed : Array Bool} {tmps : Array Value} {df : List Deferred} {w : World} (t t' : Tmp) (hr : Region.ready md ops listed = [i, j]) (ho : ops[i]? = some o) (ho' : ops[j]? = some o') (hd : o.dst = some t) (hd' : o'.dst = some t') (hw : Region.wanted o (yielded ops tmps) = true) (hw' : Region.wanted o' (yielded ops tmps) = true)
    (h : ∀ K : Act → World → Prop, (∀ v w', S w' → (S w' → wpAnyH P md ops Q S fuel (listed.setIfInBounds i true) { tmps := tmps.setIfInBounds t v, defers := df } w') → K (Act.put { tmps := tmps, defers := df } o.dst v) w') → o.wp P { tmps := tmps, defers := df } w K Q)
    (h' : ∀ K : Act → World → Prop, (∀ v w', S w' → (S w' → wpAnyH P md ops Q S fuel (listed.setIfInBounds j true) { tmps := tmps.setIfInBounds t' v, defers := df } w') → K (Act.put { tmps := tmps, defers := df } o'.dst v) w') → o'.wp P { tmps := tmps, defers := df } w K Q) : wpAnyH P md ops Q S (fuel + 1) listed { tmps := tmps, defers := df } w := by
  refine wpAnyH_ready hr (by simp) (AllReadyH.cons ho (fun K hK => ?_) (AllReadyH.cons ho' (fun K hK => ?_) AllReadyH.nil))
  · rw [if_pos hw]
    refine h K fun v w' hS h => ?_
    rw [hd]
    exact hK.out _ _ hS h
  · rw [if_pos hw']
    refine h' K fun v w' hS h => ?_
    rw [hd']
    exact hK.out _ _ hS h
/-- One operation without a value. -/
theorem one_skip {i : Nat} {o : Oper} {fuel : Nat} {listed : Array Bool} {tmps : Array Value} {df : List Deferred} {w w' : World} (hr : Region.ready md ops listed = [i]) (ho : ops[i]? = some o) (hd : o.dst = none) (hw : Region.wanted o (yielded ops tmps) = true)
    (hrun : (execOp (Act.eval { tmps := tmps, defers := df }) o).run P w = .ok .skip w') (hS : S w') (h : S w' → wpAnyH P md ops Q S fuel (listed.setIfInBounds i true) { tmps := tmps, defers := df } w') : wpAnyH P md ops Q S (fuel + 1) listed { tmps := tmps, defers := df } w := by
  refine wpAnyH_ready hr (by simp) (AllReadyH.cons ho (fun K hK => ?_) AllReadyH.nil)
  rw [if_pos hw]
  unfold Oper.wp
  rw [hrun, Oper.upon_skip, hd]
  exact hK.out _ _ hS h
theorem wp_val {o : Oper} {a : Act} {w w' : World} {v : Value} {K : Act → World → Prop} (hrun : (execOp a.eval o).run P w = .ok (.value v) w') (h : K (a.put o.dst v) w') : o.wp P a w K Q := by
  unfold Oper.wp
  rw [hrun]
  exact h
theorem wp_enter {o : Oper} {a : Act} {w w0 : World} {K : Act → World → Prop} (f : FuncId) (args : Array Value) (hrun : (execOp a.eval o).run P w = .ok (.enter f args) w0) (h : Calls P f args w0 fun e w' => ∃ v, e = .returned v ∧ K (a.put o.dst v) w') : o.wp P a w K Q := by
  unfold Oper.wp
  rw [hrun, Oper.upon_enter]
  refine h.mono ?_
  rintro e w' ⟨v, rfl, h2⟩
  exact h2
/-- One call of a function. -/
theorem one_call {i : Nat} {o : Oper} {fuel : Nat} {listed : Array Bool} {tmps : Array Value} {df : List Deferred} {w w0 : World} (t : Tmp) (f : FuncId) (args : Array Value) (hr : Region.ready md ops listed = [i]) (ho : ops[i]? = some o) (hd : o.dst = some t) (hw : Region.wanted o (yielded ops tmps) = true)
    (hrun : (execOp (Act.eval { tmps := tmps, defers := df }) o).run P w = .ok (.enter f args) w0)
    (h : Calls P f args w0 fun e w' => ∃ v, e = .returned v ∧ S w' ∧ (S w' → wpAnyH P md ops Q S fuel (listed.setIfInBounds i true) { tmps := tmps.setIfInBounds t v, defers := df } w')) : wpAnyH P md ops Q S (fuel + 1) listed { tmps := tmps, defers := df } w := by
  refine one_at t hr ho hd hw fun K hK => ?_
  unfold Oper.wp
  rw [hrun, Oper.upon_enter]
  refine h.mono ?_
  rintro e w' ⟨v, rfl, hS, h2⟩
  exact hK v w' hS h2
theorem exec_lookup (ρ : Operand → Value) (x y : Operand) (c : Bool) (t : TypeId) (dst : Option Tmp) (ty : TypeId) (pos : String) (af : Array Edge) (g : Option (Nat × Bool)) (w : World) :
    (execOp ρ ⟨dst, .lookup t x y c, ty, pos, af, g⟩).run P w = ((Instr.lookup t (ρ x) (ρ y) c).run P w).andThen (fun v w' => .ok (.value v) w') := by
  simp only [execOp, Sem.run_bind, Sem.run_pure]
end Go.Proofs.YthjlihhknaelaaaDoor

/- A region that draws its order, whose last operation (number z) waits for all others, and changes what they look at. -/
namespace Go.Proofs.YthjlihhknaelaaaDoor
open Go.RowKit
section
variable {P : Program} {md : Region.Mode} {ops : Array Oper} {Q : Exit → Act → World → Prop} {S : World → Prop} {z : Nat}

/-- Whatever order is picked, and S holds behind every operation but z. -/
def wpAnyE (P : Program) (md : Region.Mode) (ops : Array Oper) (Q : Exit → Act → World → Prop) (S : World → Prop) (z : Nat) : Nat → Array Bool → Act → World → Prop
  | 0, listed, a, w => Region.ready md ops listed = [] ∧ Q .normal a w
  | fuel + 1, listed, a, w =>
    (Region.ready md ops listed = [] → Q .normal a w) ∧
    ∀ i ∈ Region.ready md ops listed, wpOp P ops Q i (fun a' w' => (i ≠ z → S w') ∧ wpAnyE P md ops Q S z fuel (listed.setIfInBounds i true) a' w') a w
theorem wpAny_of_E : ∀ (fuel : Nat) (listed : Array Bool) (a : Act) (w : World), wpAnyE P md ops Q S z fuel listed a w → wpAny P md ops Q fuel listed a w
  | 0, _, _, _, h => h
  | fuel + 1, _, _, _, h => ⟨h.1, fun i hi => wpOp_mono (fun a' w' h' => wpAny_of_E fuel _ a' w' h'.2) (h.2 i hi)⟩
/-- Number z waits for number i. -/
def waitsZ (md : Region.Mode) (ops : Array Oper) (z i : Nat) : Bool := ((ops[z]?).map fun o => o.after.any fun e => Region.binds md e && e.on == i).getD false
theorem waitsZ_spec {i : Nat} {listed : Array Bool} (h : waitsZ md ops z i = true) (hz : z ∈ Region.ready md ops listed) : listed.getD i false = true := by
  obtain ⟨_, oz, hoz, hall⟩ := mem_ready.1 hz
  unfold waitsZ at h
  rw [hoz] at h
  simp only [Option.map_some, Option.getD_some, Array.any_eq_true] at h
  obtain ⟨k, hk, he⟩ := h
  simp only [Bool.and_eq_true, beq_iff_eq] at he
  have := hall oz.after[k] (Array.getElem_mem hk) he.1
  rw [he.2] at this
  exact this
theorem wpAnyE_first {i : Nat} {oi : Oper} {v : Value} (hi : ops[i]? = some oi) (hsel : ∀ (j : Nat) (o : Oper) cs b, ops[j]? = some o → o.op ≠ .select cs b)
    (hQ : ∀ c a w, Q (.panic c) (a.put oi.dst v) w → Q (.panic c) a w) (hz : waitsZ md ops z i = true) :
    ∀ (fuel : Nat) (listed : Array Bool) (a : Act) (w : World),
      (∀ j oj, ops[j]? = some oj → j ≠ i → listed.getD j true = false → (∀ e ∈ oj.after, Region.binds md e = true → e.on ≠ i) → oi.apart ops oj = true) →
      i ∈ Region.ready md ops listed → YieldsIf P ops S oi v a → S w →
      wpAnyE P md ops Q S z fuel (listed.setIfInBounds i true) (a.put oi.dst v) w → wpAnyE P md ops Q S z (fuel + 1) listed a w := by
  intro fuel
  induction fuel with
  | zero =>
    intro listed a w _ hr hy hS H
    refine ⟨fun h => (by rw [h] at hr; cases hr), fun j hj => ?_⟩
    by_cases hji : j = i
    · subst hji; exact hy.wpOp hi hS ⟨fun _ => hS, H⟩
    · have := ready_mono hj hji
      rw [H.1] at this
      cases this
  | succ fuel ih =>
    intro listed a w hfree hr hy hS H
    refine ⟨fun h => (by rw [h] at hr; cases hr), fun j hj => ?_⟩
    by_cases hji : j = i
    · subst hji; exact hy.wpOp hi hS ⟨fun _ => hS, H⟩
    · have h1 := H.2 j (ready_mono hj hji)
      obtain ⟨hjun, oj, hoj, hall⟩ := mem_ready.1 hj
      have hnl : listed.getD i false = true → False := fun h1 => by
        have h0 := (mem_ready.1 hr).1
        rcases Nat.lt_or_ge i listed.size with h' | h'
        · simp [h'] at h0 h1; rw [h0] at h1; cases h1
        · simp [Array.getElem?_eq_none h'] at h1
      have hnot : ∀ e ∈ oj.after, Region.binds md e = true → e.on ≠ i := fun e he hb heq => by
        have h1 := hall e he hb
        rw [heq] at h1
        exact hnl h1
      have hjz : j ≠ z := fun e => hnl (waitsZ_spec hz (e ▸ hj))
      have h2 := wpOp_putIf hoj (hfree j oj hoj hji hjun hnot) (fun cs b => hsel i oi cs b hi) (fun cs b => hsel j oj cs b hoj) hQ hy h1
      have hfree' : ∀ k ok, ops[k]? = some ok → k ≠ i → (listed.setIfInBounds j true).getD k true = false →
          (∀ e ∈ ok.after, Region.binds md e = true → e.on ≠ i) → oi.apart ops ok = true := fun k ok hk hki hun hno => by
        refine hfree k ok hk hki ?_ hno
        by_cases hjk : j = k
        · subst hjk; exact hjun
        · rw [getD_set_ne true hjk] at hun; exact hun
      refine wpOp_mono (fun a' w' h3 => ⟨h3.2.1, ih (listed.setIfInBounds j true) a' w' hfree' (ready_mono hr (Ne.symm hji)) h3.1 (h3.2.1 hjz) ?_⟩) h2
      rw [Array.setIfInBounds_comm _ _ hji]
      exact h3.2.2
theorem wpAnyE_take {i : Nat} {oi : Oper} {v : Value} {fuel : Nat} {listed : Array Bool} {a : Act} {w : World} (hi : ops[i]? = some oi) (hz : waitsZ md ops z i = true)
    (hs : Region.noSelect ops = true) (hf : Region.free md ops listed i = true) (hr : (Region.ready md ops listed).contains i = true)
    (hQ : ∀ c a w, Q (.panic c) (a.put oi.dst v) w → Q (.panic c) a w) (hy : YieldsIf P ops S oi v a) (hS : S w)
    (h : wpAnyE P md ops Q S z fuel (listed.setIfInBounds i true) (a.put oi.dst v) w) : wpAnyE P md ops Q S z (fuel + 1) listed a w :=
  wpAnyE_first hi (Region.noSelect_spec hs) hQ hz fuel listed a w (Region.free_spec hi hf) (by simpa using hr) hy hS h
theorem wpAnyE_done {listed : Array Bool} {a : Act} {w : World} (hr : Region.ready md ops listed = []) (h : Q .normal a w) :
    ∀ fuel, wpAnyE P md ops Q S z fuel listed a w
  | 0 => ⟨hr, h⟩
  | _ + 1 => ⟨fun _ => h, by rw [hr]; simp⟩
theorem region_atE {id : Nat} {a : Act} {w : World} (k z : Nat) (hk : ops.size = k) (hm : P.follows .mixedOrders = true) (h : wpAnyE P .any ops Q S z k (Array.replicate k false) a w.drew) : (Code.region id ops true).wp P Q a w := by
  subst hk
  exact wp_region_any hm (wpAny_of_E _ _ _ _ h)
theorem take_atE {i : Nat} {oi : Oper} {v : Value} {fuel : Nat} {listed : Array Bool} {tmps : Array Value} {df : List Deferred} {w : World} (t : Tmp) (hi : ops[i]? = some oi) (hd : oi.dst = some t) (hz : waitsZ md ops z i = true)
    (hs : Region.noSelect ops = true) (hf : Region.free md ops listed i = true) (hr : (Region.ready md ops listed).contains i = true)
    (hQ : ∀ c a w, Q (.panic c) (a.put oi.dst v) w → Q (.panic c) a w) (hw : Region.wanted oi (yielded ops tmps) = true) (hy : ∀ w, S w → (execOp (Act.eval { tmps := tmps, defers := df }) oi).run P w = .ok (.value v) w) (hS : S w)
    (h : wpAnyE P md ops Q S z fuel (listed.setIfInBounds i true) { tmps := tmps.setIfInBounds t v, defers := df } w) : wpAnyE P md ops Q S z (fuel + 1) listed { tmps := tmps, defers := df } w := by
  refine wpAnyE_take hi hz hs hf hr hQ (.inl ⟨hw, hy⟩) hS ?_
  rw [hd]; exact h
/-- One operation that may come up alone. -/
theorem one_atE {i : Nat} {o : Oper} {fuel : Nat} {listed : Array Bool} {a : Act} {w : World} (hr : Region.ready md ops listed = [i]) (ho : ops[i]? = some o) (hw : Region.wanted o (yielded ops a.tmps) = true)
    (h : o.wp P a w (fun a' w' => (i ≠ z → S w') ∧ wpAnyE P md ops Q S z fuel (listed.setIfInBounds i true) a' w') Q) : wpAnyE P md ops Q S z (fuel + 1) listed a w := by
  refine ⟨fun e => (by rw [hr] at e; cases e), fun j hj => ?_⟩
  rw [hr, List.mem_singleton] at hj
  subst hj
  unfold wpOp
  simp only [ho, hw, if_true]
  exact .inl h
theorem one_callE {i : Nat} {o : Oper} {fuel : Nat} {listed : Array Bool} {tmps : Array Value} {df : List Deferred} {w w0 : World} (t : Tmp) (f : FuncId) (args : Array Value) (hr : Region.ready md ops listed = [i]) (ho : ops[i]? = some o) (hd : o.dst = some t) (hw : Region.wanted o (yielded ops tmps) = true)
    (hrun : (execOp (Act.eval { tmps := tmps, defers := df }) o).run P w = .ok (.enter f args) w0)
    (h : Calls P f args w0 fun e w' => ∃ v, e = .returned v ∧ S w' ∧ wpAnyE P md ops Q S z fuel (listed.setIfInBounds i true) { tmps := tmps.setIfInBounds t v, defers := df } w') : wpAnyE P md ops Q S z (fuel + 1) listed { tmps := tmps, defers := df } w := by
  refine one_atE hr ho hw ?_
  unfold Oper.wp
  rw [hrun, Oper.upon_enter]
  refine h.mono ?_
  rintro e w' ⟨v, rfl, hS, h2⟩
  refine ⟨fun _ => hS, ?_⟩
  rw [hd]; exact h2
theorem one_valueE {i : Nat} {o : Oper} {fuel : Nat} {listed : Array Bool} {tmps : Array Value} {df : List Deferred} {w w' : World} {v : Value} (t : Tmp) (hr : Region.ready md ops listed = [i]) (ho : ops[i]? = some o) (hd : o.dst = some t) (hw : Region.wanted o (yielded ops tmps) = true)
    (hrun : (execOp (Act.eval { tmps := tmps, defers := df }) o).run P w = .ok (.value v) w') (hS : S w') (h : wpAnyE P md ops Q S z fuel (listed.setIfInBounds i true) { tmps := tmps.setIfInBounds t v, defers := df } w') : wpAnyE P md ops Q S z (fuel + 1) listed { tmps := tmps, defers := df } w := by
  refine one_atE hr ho hw ?_
  unfold Oper.wp
  rw [hrun, Oper.upon_value, hd]
  exact ⟨fun _ => hS, h⟩
/-- The last one: it has no value. -/
theorem last_skipE {o : Oper} {fuel : Nat} {listed : Array Bool} {a : Act} {w w' : World} (hr : Region.ready md ops listed = [z]) (ho : ops[z]? = some o) (hd : o.dst = none) (hw : Region.wanted o (yielded ops a.tmps) = true)
    (hrun : (execOp a.eval o).run P w = .ok .skip w') (hend : Region.ready md ops (listed.setIfInBounds z true) = []) (h : Q .normal a w') : wpAnyE P md ops Q S z (fuel + 1) listed a w := by
  refine one_atE hr ho hw ?_
  unfold Oper.wp
  rw [hrun]
  simp only [Oper.upon, hd]
  exact ⟨fun e => absurd rfl e, wpAnyE_done hend h _⟩
end
end Go.Proofs.YthjlihhknaelaaaDoor
