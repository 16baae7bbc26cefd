/- Texts that were written apart, joined. -/
import Derived.Test.YthfngcpcccbnpaaDoorE0
import Derived.Test.YthfngcpcccbnpaaDoorJ3
import Derived.Test.YthfngcpcccbnpaaDoorGf
import Derived.ArgAppend
/- Rows of distances in one memory: what lies there, append within the capacity; start and next. -/
namespace Go.Proofs.YthfngcpcccbnpaaDoor
open Go.RowKit Nums Ed
set_option maxRecDepth 100000

/-- Block g holds the numbers cs. -/
def IBlk (w : World) (g : Nat) (cs : List Int) : Prop := w.heap[g]? = some (.cells (cs.map (Value.int .i64)).toArray 3 (0, 0))
theorem IBlk.lt {w : World} {g : Nat} {cs : List Int} (h : IBlk w g cs) : g < w.heap.size := (Array.getElem?_eq_some_iff.1 h).1
theorem IBlk.cell {w : World} {g k : Nat} {cs : List Int} {x : Int} (h : IBlk w g cs) (hk : cs[k]? = some x) : w.cell? ⟨g, k, none⟩ = some (.int .i64 x) := by
  unfold IBlk at h
  simp only [World.cell?, h]
  simp [hk]
theorem IBlk.frozen {w : World} {g : Nat} {cs : List Int} (h : IBlk w g cs) (k : Nat) : w.frozen? ⟨g, k, none⟩ = false := by
  unfold IBlk at h
  simp only [World.frozen?, h]
  simp
theorem IBlk.set {w : World} {g : Nat} {cs : List Int} (h : IBlk w g cs) (k : Nat) (x : Int) : IBlk (w.setCell ⟨g, k, none⟩ (.int .i64 x)) g (cs.set k x) := by
  unfold IBlk at h ⊢
  simp only [World.setCell, Array.getElem?_modify, h]
  simp [List.map_set]
theorem IBlk.same {w w' : World} {g : Nat} {cs : List Int} (h : IBlk w g cs) (e : w'.heap[g]? = w.heap[g]?) : IBlk w' g cs := by
  unfold IBlk at h ⊢; rw [e]; exact h
/-- All that was there is as it was, but for block r. -/
structure But (r : Nat) (w w' : World) : Prop where
  os : w'.os = w.os
  tape : w'.tape = w.tape
  output : w'.output = w.output
  size : w.heap.size ≤ w'.heap.size
  block : ∀ k, k < w.heap.size → k ≠ r → w'.heap[k]? = w.heap[k]?
theorem But.refl (r : Nat) (w : World) : But r w w := ⟨rfl, rfl, rfl, Nat.le_refl _, fun _ _ _ => rfl⟩
theorem But.trans {r : Nat} {a b c : World} (h : But r a b) (k : But r b c) : But r a c :=
  ⟨k.os.trans h.os, k.tape.trans h.tape, k.output.trans h.output, Nat.le_trans h.size k.size, fun i hi hr => (k.block i (Nat.lt_of_lt_of_le hi h.size) hr).trans (h.block i hi hr)⟩
theorem But.of_below {r : Nat} {w w' : World} (h : Below w.heap.size w w') : But r w w' := ⟨h.os, h.tape, h.output, h.size, fun k hk _ => h.block k hk⟩
theorem But.below {r B : Nat} {w w' : World} (h : But r w w') (hr : B ≤ r) (hB : B ≤ w.heap.size) : Below B w w' :=
  ⟨h.os, h.tape, h.output, h.size, fun k hk => h.block k (by omega) (by omega)⟩
theorem But.setCell {r : Nat} {a w : World} (h : But r a w) (o : Nat) (u : Value) : But r a (w.setCell ⟨r, o, none⟩ u) :=
  h.trans ⟨rfl, rfl, rfl, by simp [World.setCell], fun k _ hk => Below.heap_setCell _ _ _ _ hk⟩
theorem IBlk.alloc {w : World} {g : Nat} {cs : List Int} (h : IBlk w g cs) (o : Obj) : IBlk (w.alloc o) g cs := h.same (Below.heap_alloc _ _ _ h.lt)
theorem IBlk.drewN {w : World} {g : Nat} {cs : List Int} (h : IBlk w g cs) (n : Nat) : IBlk (w.drewN n) g cs := h
theorem But.alloc {r : Nat} {a w : World} (h : But r a w) (o : Obj) : But r a (w.alloc o) := h.trans (But.of_below ((Below.refl _ w).alloc (Nat.le_refl _) o))
theorem infoInt : (Tryd.prog.info? 3).map (fun i => (i.zero, i.size, i.bytes)) = some (some (.int .i64 0), 1, 8) := by kernel_rfl
/-- 'append(row, x)', where the row has room. -/
theorem appendI_run {w : World} {g off n cap nb c : Nat} {cs : List Int} {x : Int} (h : IBlk w g cs) (hx : w.cell? ⟨nb, 0, none⟩ = some (.int .i64 x)) (hn : n < cap) (ho : off + n < cs.length) (ty : TypeId) :
    (Builtin.append_ #[81, 81] ty #[.slice (some ⟨g, off, none⟩) n cap, .slice (some ⟨nb, 0, none⟩) 1 c]).run Tryd.prog w = .ok (.slice (some ⟨g, off, none⟩) (n + 1) cap) (w.setCell ⟨g, off + n, none⟩ (.int .i64 x)) := by
  obtain ⟨i0, hi, hz0, hz1, hz2⟩ := info_parts infoInt
  have hadd : ∀ j, (⟨nb, 0, none⟩ : Addr).add j = ⟨nb, 0 + j, none⟩ := fun j => by unfold Addr.add; split <;> simp_all
  have hc : w.cell? ⟨g, off + n, none⟩ = some (.int .i64 cs[off + n]) := h.cell (List.getElem?_eq_getElem ho)
  have hr := run_append_room_cells (P := Tryd.prog) w 81 ty 3 i0 Tryd.underlying81 hi g off n cap ⟨nb, 0, none⟩ 1 c [.int .i64 x] (by rw [hz1]; rfl) (fun j u hj => by
    match j, hj with
    | 0, hj => simp at hj; subst hj; rw [hadd]; exact hx) (by simp [Value.oneCell']) (by omega) (fun j hj => by
      rw [hz1]; simp at hj; subst hj; simp [hc]) (fun j hj => h.frozen _)
  rw [hr, hz1]
  simp [World.setCells]
/-- The same in a walk, where x was just laid in a new block. -/
theorem append_i {W : World} {ops : Array Oper} {rest : List Oper} {o : Oper} {a : Act} {Q : Exit → Act → World → Prop} (hgd : o.guard = none) (s y : Operand) (T2 : TypeId)
    (ho : o.op = .call { callee := .builtin .append, args := #[s, y], argTypes := #[81, 81] }) (g off n cap c nb : Nat) (cs : List Int) (x : Int) (hs : a.eval s = .slice (some ⟨g, off, none⟩) n cap) (hy : a.eval y = .slice (some ⟨nb, 0, none⟩) 1 c) (hnb : nb = W.heap.size) (hB : IBlk W g cs) (hn : n < cap) (hl : off + n < cs.length)
    (h : ∀ w', IBlk w' g (cs.set (off + n) x) → But g W w' → wpList Tryd.prog ops Q rest (a.put o.dst (.slice (some ⟨g, off, none⟩) (n + 1) cap)) w') : wpList Tryd.prog ops Q (o :: rest) a (W.alloc (.cells #[.int .i64 x] T2)) := by
  subst hnb
  have h1 := appendI_run (nb := W.heap.size) (c := c) (x := x) (hB.alloc (.cells #[.int .i64 x] T2)) (by simp) hn hl o.type
  refine wpList_plain hgd fun _ hK => ?_
  unfold Oper.wp execOp
  simp only [ho, resolve, invoke, builtin, Sem.run_bind, Sem.run_pure, Result.andThen_ok, List.map_toArray, List.map_cons, List.map_nil, hs, hy, h1]
  exact hK _ _ (h _ ((hB.alloc _).set _ _) (((But.refl g W).alloc _).setCell _ _))
/-- A row that a call has made can be read. -/
theorem Made.runesE {B : Nat} {w : World} {v : Value} {xs : List Int} (h : Made B w v xs) : RunesAt w.heap.size w v xs := by
  obtain ⟨hl, hn | ⟨g, cap, cur, rfl, hb, hg, h1, h2, h3, h4⟩⟩ := h
  · obtain ⟨rfl, h0⟩ := hn
    exact ⟨none, 0, by rw [h0], fun h => by omega⟩
  · refine ⟨_, _, rfl, fun _ => ⟨g, 0, rfl, (Array.getElem?_eq_some_iff.1 hg).1, fun i x hi => ?_⟩⟩
    have hi' := (List.getElem?_eq_some_iff.1 hi).1
    have hc : cur[i]? = some (.int .i32 x) := by
      have e : (cur.toList.take (xs.length * 1))[i]? = (xs.map (Value.int .i32))[i]? := by rw [h4]
      rw [List.getElem?_take, if_pos (by omega)] at e
      rw [← Array.getElem?_toList, e, List.getElem?_map, hi]
      rfl
    simp only [World.cell?, hg, Nat.zero_add]
    simpa using hc
theorem RunesAt.form {E : Nat} {w : World} {v : Value} {xs : List Int} (h : RunesAt E w v xs) : ∃ ad cap, v = .slice ad xs.length cap := by
  obtain ⟨ad, cap, e, _⟩ := h; exact ⟨ad, cap, e⟩
theorem RunesAt.at {E : Nat} {w : World} {ad : Option Addr} {n cap : Nat} {xs : List Int} (h : RunesAt E w (.slice ad n cap) xs) {k : Nat} {x : Int} (hk : xs[k]? = some x) : ∃ g off, ad = some ⟨g, off, none⟩ ∧ g < E ∧ w.cell? ⟨g, off + k, none⟩ = some (.int .i32 x) := by
  obtain ⟨ad', cap', e, hc⟩ := h
  simp only [Value.slice.injEq] at e
  obtain ⟨rfl, _, rfl⟩ := e
  obtain ⟨g, off, rfl, hg, hx⟩ := hc (by have := (List.getElem?_eq_some_iff.1 hk).1; omega)
  exact ⟨g, off, rfl, hg, hx k x hk⟩
theorem take_dr (p ys : List Int) {k : Nat} (h : k ≤ ys.length) : (dr p ys).take (k + 1) = (dr p ys).take k ++ [(lv p (ys.take k) : Int)] := by
  rw [List.take_add_one, dr_get _ _ h]; rfl
theorem tdr_len (p ys : List Int) {k : Nat} (h : k ≤ ys.length + 1) : ((dr p ys).take k).length = k := by rw [List.length_take, dr_len]; omega

set_option maxHeartbeats 1000000 in
theorem start_any (w : World) (g off cap : Nat) (cs ys : List Int) (hB : IBlk w g cs) (hcap : ys.length < cap) (hl : off + ys.length < cs.length) (hs : ys.length ≤ 100000) :
    Calls Tryd.prog 37 #[.slice (some ⟨g, off, none⟩) 0 cap, .int .i64 ys.length] w fun e w' => e = .returned (.slice (some ⟨g, off, none⟩) (ys.length + 1) cap) ∧ IBlk w' g (lay cs off (dr [] ys)) ∧ But g w w' := by
  obtain ⟨n, hn⟩ : ∃ n, n = ys.length := ⟨_, rfl⟩
  rw [← hn] at hcap hl hs ⊢
  have HN : Hid (n = ys.length) := hn
  clear hn
  go_enter Tryd.func37, Tryd.ntmps37
  go_wp2
  go_loopw [0, 8] (fun v i wr => ∃ k : Nat, k ≤ n + 1 ∧ i = .int .i64 k ∧ v = .slice (some ⟨g, off, none⟩) k cap ∧ IBlk wr g (lay cs off ((dr [] ys).take k)) ∧ But g w wr) (fun _ i _ => n + 1 - (intOf i).toNat)
  case atStart => exact ⟨0, by omega, rfl, rfl, by rw [List.take_zero, lay_nil]; exact hB, But.refl _ _⟩
  case round =>
    obtain ⟨k, hk, rfl, rfl, hI, hbut⟩ := hrel
    have HI : Hid (IBlk wr g (lay cs off ((dr [] ys).take k))) := hI
    clear hI
    by_cases hlt : k < n + 1
    · have hlen : Hid (((dr [] ys).take k).length = k) := tdr_len _ _ (by have := HN.out; omega)
      have hcl : Hid ((lay cs off ((dr [] ys).take k)).length = cs.length) := lay_len (by rw [hlen.out]; omega)
      go_wp2_with (at_builtin; refine append_i rfl _ _ _ rfl g off k cap _ _ (lay cs off ((dr [] ys).take k)) (k : Int) rfl rfl rfl HI.out (by omega) (by rw [hcl.out]; omega) ?_)
      intro w1 hI1 hb1
      have HI1 : Hid (IBlk w1 g (lay cs off ((dr [] ys).take (k + 1)))) := by
        have e := lay_set (cs := cs) (L := (dr [] ys).take k) (b := off) (by rw [hlen.out]; omega) (k : Int)
        rw [hlen.out] at e
        rw [e] at hI1
        rw [List.take_add_one, dr_start _ (by have := HN.out; omega)]
        exact hI1
      clear hI1
      go_wp2
      go_roundw
      case rel => exact ⟨k + 1, by omega, by go_num, rfl, HI1.out, hbut.trans hb1⟩
      case measure => simp [intOf]; omega
    · obtain rfl : k = n + 1 := by omega
      go_wp2
      go_ret
      refine ⟨rfl, ?_, hbut⟩
      have := HI.out
      rwa [HN.out, List.take_of_length_le (by rw [dr_len]; omega)] at this
end Go.Proofs.YthfngcpcccbnpaaDoor

/- edit.next: the next row of distances. -/
namespace Go.Proofs.YthfngcpcccbnpaaDoor
open Go.RowKit Nums Ed
set_option maxRecDepth 100000

theorem new_cell (w : World) (v : Value) (T : TypeId) : (w.alloc (.cells #[v] T)).cell? ⟨w.heap.size, 0, none⟩ = some v := by simp
/-- The least of three. -/
def min3 (a b c : Int) : Int := if c < (if b < a then b else a) then c else (if b < a then b else a)
theorem run_min3 (ts : Array TypeId) (ty : TypeId) (k : IntKind) (a b c : Int) (w : World) : (Builtin.min_ ts ty #[.int k a, .int k b, .int k c]).run Tryd.prog w = .ok (.int k (min3 a b c)) w := by
  simp [Builtin.min_, Builtin.min2, min3, Sem.run_pure]
theorem exec_min3 {ρ : Operand → Value} {x y z : Operand} {ts : Array TypeId} {dst : Option Tmp} {ty : TypeId} {pos : String} {af : Array Edge} {g : Option (Nat × Bool)} {w : World} {k : IntKind} {a b c : Int} (hx : ρ x = .int k a) (hy : ρ y = .int k b) (hz : ρ z = .int k c) :
    (execOp ρ ⟨dst, .call { callee := .builtin .min, args := #[x, y, z], argTypes := ts }, ty, pos, af, g⟩).run Tryd.prog w = .ok (.value (.int k (min3 a b c))) w := by
  unfold execOp
  simp only [resolve, invoke, builtin, Sem.run_bind, Sem.run_pure, Result.andThen_ok, List.map_toArray, List.map_cons, List.map_nil, hx, hy, hz, run_min3]
theorem exec_appE {P : Program} {ρ : Operand → Value} {x y : Operand} {t : TypeId} {dst : Option Tmp} {ty : TypeId} {pos : String} {af : Array Edge} {g : Option (Nat × Bool)} {w w' : World} {v : Value} (h : (Builtin.append_ #[t, t] ty #[ρ x, ρ y]).run P w = .ok v w') :
    (execOp ρ ⟨dst, .call { callee := .builtin .append, args := #[x, y], argTypes := #[t, t] }, ty, pos, af, g⟩).run P w = .ok (.value v) w' := by
  unfold execOp
  simp only [resolve, invoke, builtin, Sem.run_bind, Sem.run_pure, Result.andThen_ok, List.map_toArray, List.map_cons, List.map_nil, h]

set_option maxHeartbeats 1000000 in
theorem next_any (w : World) (g off a cap capa : Nat) (cs p ys : List Int) (r : Int) (vy : Value) (E : Nat) (hB : IBlk w g cs) (hcap : ys.length < cap) (hl : off + ys.length < cs.length)
    (hA : ∀ j, j ≤ ys.length → cs[a + j]? = some (lv p (ys.take j) : Int)) (hap : a + ys.length < off ∨ off + ys.length < a) (hy : RunesAt E w vy ys) (hE : E ≤ g) (hs : ys.length ≤ 100000) (hps : p.length ≤ 100000) :
    Calls Tryd.prog 38 #[.slice (some ⟨g, off, none⟩) 0 cap, .slice (some ⟨g, a, none⟩) (ys.length + 1) capa, .int .i32 r, vy] w fun e w' => e = .returned (.slice (some ⟨g, off, none⟩) (ys.length + 1) cap) ∧ IBlk w' g (lay cs off (dr (p ++ [r]) ys)) ∧ But g w w' := by
  obtain ⟨ady, capy, rfl⟩ := hy.form
  obtain ⟨n, hn⟩ : ∃ n, n = ys.length := ⟨_, rfl⟩
  rw [← hn] at hcap hl hs hap hA hy ⊢
  have HN : Hid (n = ys.length) := hn
  clear hn
  have HA : Hid (∀ j, j ≤ n → cs[a + j]? = some (lv p (ys.take j) : Int)) := hA
  clear hA
  have hc0 : w.cell? ⟨g, a, none⟩ = some (.int .i64 (p.length : Int)) := by
    have := HA.out 0 (Nat.zero_le _)
    rw [List.take_zero, lv_right] at this
    exact hB.cell this
  have HB : Hid (IBlk w g cs) := hB
  have hgl := hB.lt
  clear hB
  go_enter Tryd.func38, Tryd.ntmps38
  go_wp2_with (at_builtin; refine append_i rfl _ _ _ rfl g off 0 cap _ _ cs ((p.length : Int) + 1) rfl rfl rfl HB.out (by omega) (by omega) ?_)
  intro w1 hI1 hb1
  have HI1 : Hid (IBlk w1 g (lay cs off ((dr (p ++ [r]) ys).take 1))) := by
    have e := lay_set (cs := cs) (L := []) (b := off) (by simp; omega) ((p.length : Int) + 1)
    rw [lay_nil] at e
    simp only [List.length_nil, Nat.add_zero] at e
    rw [e] at hI1
    rw [take_dr _ _ (Nat.zero_le _), List.take_zero, List.take_zero, lv_right, List.nil_append]
    exact (by simpa using hI1 : IBlk w1 g (lay cs off [((p ++ [r]).length : Int)]))
  clear hI1 hc0
  go_wp2
  go_loopw [0, 21] (fun v i wr => ∃ k : Nat, k ≤ n ∧ i = .int .i64 k ∧ v = .slice (some ⟨g, off, none⟩) (k + 1) cap ∧ IBlk wr g (lay cs off ((dr (p ++ [r]) ys).take (k + 1))) ∧ But g w wr) (fun _ i _ => n - (intOf i).toNat)
  case atStart => exact ⟨0, by omega, rfl, rfl, HI1.out, hb1⟩
  case round =>
    obtain ⟨k, hk, rfl, rfl, hI, hbut⟩ := hrel
    have HI : Hid (IBlk wr g (lay cs off ((dr (p ++ [r]) ys).take (k + 1)))) := hI
    clear hI
    by_cases hlt : k < n
    · have hlen : Hid (((dr (p ++ [r]) ys).take (k + 1)).length = k + 1) := tdr_len _ _ (by have := HN.out; omega)
      have hcl : Hid ((lay cs off ((dr (p ++ [r]) ys).take (k + 1))).length = cs.length) := lay_len (by rw [hlen.out]; omega)
      have hky : k < ys.length := by have := HN.out; omega
      obtain ⟨s, hs'⟩ : ∃ s, ys[k]? = some s := ⟨_, List.getElem?_eq_getElem hky⟩
      have HS : Hid (ys[k]? = some s) := hs'
      clear hs'
      obtain ⟨gy, offy, rfl, hgy, hcy⟩ := (hy.below (hbut.below hE (by omega))).at HS.out
      have hA0 : wr.cell? ⟨g, a + k, none⟩ = some (.int .i64 (lv p (ys.take k) : Int)) := HI.out.cell (by rw [lay_out (by rw [hlen.out]; omega) (by rw [hlen.out]; omega)]; exact HA.out k (by omega))
      have hA1 : wr.cell? ⟨g, a + (k + 1), none⟩ = some (.int .i64 (lv p (ys.take (k + 1)) : Int)) := HI.out.cell (by rw [lay_out (by rw [hlen.out]; omega) (by rw [hlen.out]; omega)]; exact HA.out (k + 1) (by omega))
      have hR0 : wr.cell? ⟨g, off + k, none⟩ = some (.int .i64 (lv (p ++ [r]) (ys.take k) : Int)) := HI.out.cell (by rw [lay_in (by rw [hlen.out]; omega) (by rw [hlen.out]; omega), List.getElem?_take, if_pos (by omega), dr_get _ _ (by omega)])
      have b0 := dr_bd p ys k
      have b1 := dr_bd p ys (k + 1)
      have b2 := dr_bd (p ++ [r]) ys k
      rw [List.length_append, List.length_singleton, ← HN.out] at b2
      rw [← HN.out] at b0 b1
      have HNX : Hid _ := dr_next p ys r HS.out
      generalize hd0 : lv p (ys.take k) = d0 at *
      generalize hd1 : lv p (ys.take (k + 1)) = d1 at *
      generalize hd2 : lv (p ++ [r]) (ys.take k) = d2 at *
      clear hd0 hd1 hd2
      obtain ⟨q, hq⟩ : ∃ q, q = k + 1 := ⟨_, rfl⟩
      rw [← hq] at hA1
      have hwq : IntKind.i64.wrap ((k : Int) + 1) = (q : Int) := by rw [IntKind.wrap_i64]; omega
      have hqn : (q : Int) < (n : Int) + 1 := by omega
      have hq0 : (0 : Int) ≤ (q : Int) := by omega
      have hkn : (k : Int) < (k : Int) + 1 := by omega
      have hqt : (q : Int).toNat = q := rfl
      have hwd1 : IntKind.i64.wrap ((d1 : Int) + 1) = (d1 : Int) + 1 := by rw [IntKind.wrap_i64]; omega
      have hwd2 : IntKind.i64.wrap ((d2 : Int) + 1) = (d2 : Int) + 1 := by rw [IntKind.wrap_i64]; omega
      have HQ : Hid (q = k + 1) := hq
      clear hq
      obtain ⟨d3, hd3⟩ : ∃ d3, d3 = lv (p ++ [r]) (ys.take (k + 1)) := ⟨_, rfl⟩
      rw [← hd3] at HNX
      have HD3 : Hid (d3 = lv (p ++ [r]) (ys.take (k + 1))) := hd3
      clear hd3
      have hS0 : wr.drew.cell? ⟨g, a + q, none⟩ = some (.int .i64 (d1 : Int)) ∧ wr.drew.cell? ⟨g, off + k, none⟩ = some (.int .i64 (d2 : Int)) := ⟨hA1, hR0⟩
      obtain ⟨W4, hW4⟩ : ∃ W4, W4 = wr.drew.alloc (.cells #[.int .i64 (d3 : Int)] 3) := ⟨_, rfl⟩
      have hI4 : IBlk W4 g (lay cs off ((dr (p ++ [r]) ys).take (k + 1))) := by rw [hW4]; exact IBlk.alloc (w := wr.drew) HI.out _
      have hS4 : W4.cell? ⟨g, a + q, none⟩ = some (.int .i64 (d1 : Int)) ∧ W4.cell? ⟨g, off + k, none⟩ = some (.int .i64 (d2 : Int)) := by
        have hb : Below wr.drew.heap.size wr.drew W4 := by rw [hW4]; exact (Below.refl _ _).alloc (Nat.le_refl _) _
        have hlt' : g < wr.drew.heap.size := HI.out.lt
        exact ⟨(hb.cell (p := ⟨g, a + q, none⟩) hlt').trans hS0.1, (hb.cell (p := ⟨g, off + k, none⟩) hlt').trans hS0.2⟩
      have hap4 := appendI_run (x := (d3 : Int)) (nb := wr.drew.heap.size) (c := 1) (n := k + 1) (cap := cap) (off := off) hI4 (by rw [hW4]; exact new_cell wr.drew _ _) (by omega) (by rw [hcl.out]; omega) 81
      obtain ⟨W5, hW5⟩ : ∃ W5, W5 = W4.setCell ⟨g, off + (k + 1), none⟩ (.int .i64 (d3 : Int)) := ⟨_, rfl⟩
      rw [← hW5] at hap4
      have HAP : Hid ((Builtin.append_ #[81, 81] 81 #[.slice (some ⟨g, off, none⟩) (k + 1) cap, .slice (some ⟨wr.drew.heap.size, 0, none⟩) 1 1]).run Tryd.prog W4 = .ok (.slice (some ⟨g, off, none⟩) (k + 1 + 1) cap) W5) := hap4
      have hS5 : W5.cell? ⟨g, a + q, none⟩ = some (.int .i64 (d1 : Int)) ∧ W5.cell? ⟨g, off + k, none⟩ = some (.int .i64 (d2 : Int)) := by
        rw [hW5]
        refine ⟨?_, ?_⟩
        · rw [World.cell?_setCell_other _ _ _ _ (by intro e; have h2 : off + (k + 1) = a + q := congrArg Addr.off e; have := HQ.out; omega)]; exact hS4.1
        · rw [World.cell?_setCell_other _ _ _ _ (by simp)]; exact hS4.2
      have HB5 : Hid (But g wr W5) := by
        show But g wr W5
        rw [hW5]
        refine But.setCell ?_ _ _
        rw [hW4]
        exact ((show But g wr wr.drew from ⟨rfl, rfl, rfl, Nat.le_refl _, fun _ _ _ => rfl⟩).alloc _)
      have HI5 : Hid (IBlk W5 g (lay cs off ((dr (p ++ [r]) ys).take (k + 1 + 1)))) := by
        show IBlk W5 g (lay cs off ((dr (p ++ [r]) ys).take (k + 1 + 1)))
        have e := lay_set (cs := cs) (L := (dr (p ++ [r]) ys).take (k + 1)) (b := off) (by rw [hlen.out]; omega) (d3 : Int)
        rw [hlen.out] at e
        rw [take_dr (p ++ [r]) ys (k := k + 1) (by have := HN.out; omega), ← HD3.out, ← e, hW5]
        exact hI4.set _ _
      have HW5 : Hid (W5 = W4.setCell ⟨g, off + (k + 1), none⟩ (.int .i64 (d3 : Int))) := hW5
      clear hW5 hI4 hap4
      by_cases hsr : s = r
      · subst hsr
        have HM : Hid (min3 (d0 : Int) ((d1 : Int) + 1) ((d2 : Int) + 1) = (d3 : Int)) := by
          have := HNX.out
          rw [if_pos rfl] at this
          unfold Hid min3
          split <;> split at * <;> omega
        go_wp2
        refine region_at (S := fun W => W.cell? ⟨g, a + q, none⟩ = some (.int .i64 (d1 : Int)) ∧ W.cell? ⟨g, off + k, none⟩ = some (.int .i64 (d2 : Int))) 17 rfl mixedP hS0 (fun _ => ?_)
        refine take_at (i := 0) 35 rfl rfl (by kernel_rfl) (by kernel_rfl) (by kernel_rfl) (fun _ _ _ h => h) (by rfl) (fun w hSw => by (have hSw2 := id hSw; clear hSw; go_simp; first | done | exact rfl)) (by assumption) ?_
        simp only [List.setIfInBounds_toArray, List.set_cons_zero, List.set_cons_succ]
        refine take_at (i := 1) 36 rfl rfl (by kernel_rfl) (by kernel_rfl) (by kernel_rfl) (fun _ _ _ h => h) (by rfl) (fun w hSw => by (have hSw2 := id hSw; clear hSw; go_simp; first | done | exact rfl)) (by assumption) ?_
        simp only [List.setIfInBounds_toArray, List.set_cons_zero, List.set_cons_succ]
        refine take_at (i := 2) 37 rfl rfl (by kernel_rfl) (by kernel_rfl) (by kernel_rfl) (fun _ _ _ h => h) (by rfl) (fun w hSw => by (have hSw2 := id hSw; clear hSw; go_simp; first | done | exact rfl)) (by assumption) ?_
        simp only [List.setIfInBounds_toArray, List.set_cons_zero, List.set_cons_succ]
        refine take_at (i := 3) 38 rfl rfl (by kernel_rfl) (by kernel_rfl) (by kernel_rfl) (fun _ _ _ h => h) (by rfl) (fun w hSw => by (have hSw2 := id hSw; clear hSw; go_simp; first | done | exact rfl)) (by assumption) ?_
        simp only [List.setIfInBounds_toArray, List.set_cons_zero, List.set_cons_succ]
        refine take_at (i := 4) 39 rfl rfl (by kernel_rfl) (by kernel_rfl) (by kernel_rfl) (fun _ _ _ h => h) (by rfl) (fun w hSw => by (have hSw2 := id hSw; clear hSw; go_simp; first | done | exact rfl)) (by assumption) ?_
        simp only [List.setIfInBounds_toArray, List.set_cons_zero, List.set_cons_succ]
        refine take_at (i := 5) 40 rfl rfl (by kernel_rfl) (by kernel_rfl) (by kernel_rfl) (fun _ _ _ h => h) (by rfl) (fun w hSw => by (have hSw2 := id hSw; clear hSw; go_simp; first | done | exact rfl)) (by assumption) ?_
        simp only [List.setIfInBounds_toArray, List.set_cons_zero, List.set_cons_succ]
        refine take_at (i := 6) 41 rfl rfl (by kernel_rfl) (by kernel_rfl) (by kernel_rfl) (fun _ _ _ h => h) (by rfl) (fun w hSw => by (have hSw2 := id hSw; clear hSw; go_simp; first | done | exact rfl)) (by assumption) ?_
        simp only [List.setIfInBounds_toArray, List.set_cons_zero, List.set_cons_succ]
        refine take_at (i := 7) 42 rfl rfl (by kernel_rfl) (by kernel_rfl) (by kernel_rfl) (fun _ _ _ h => h) (by rfl) (fun w hSw => by (have hSw2 := id hSw; clear hSw; go_simp; first | done | exact rfl)) (by assumption) ?_
        simp only [List.setIfInBounds_toArray, List.set_cons_zero, List.set_cons_succ]
        refine take_at (i := 8) 43 rfl rfl (by kernel_rfl) (by kernel_rfl) (by kernel_rfl) (fun _ _ _ h => h) (by rfl) (fun w hSw => by (have hSw2 := id hSw; clear hSw; go_simp; first | done | exact rfl)) (by assumption) ?_
        simp only [List.setIfInBounds_toArray, List.set_cons_zero, List.set_cons_succ]
        refine take_at (i := 9) 44 rfl rfl (by kernel_rfl) (by kernel_rfl) (by kernel_rfl) (fun _ _ _ h => h) (by rfl) (fun w hSw => by (have hSw2 := id hSw; clear hSw; go_simp; first | done | exact rfl)) (by assumption) ?_
        simp only [List.setIfInBounds_toArray, List.set_cons_zero, List.set_cons_succ]
        refine take_at (i := 10) 45 rfl rfl (by kernel_rfl) (by kernel_rfl) (by kernel_rfl) (fun _ _ _ h => h) (by rfl) (fun w hSw => by (have hSw2 := id hSw; clear hSw; go_simp; first | done | exact rfl)) (by assumption) ?_
        simp only [List.setIfInBounds_toArray, List.set_cons_zero, List.set_cons_succ]
        refine take_at (i := 11) 46 rfl rfl (by kernel_rfl) (by kernel_rfl) (by kernel_rfl) (fun _ _ _ h => h) (by rfl) (fun w hSw => by (have hSw2 := id hSw; clear hSw; go_simp; first | done | exact rfl)) (by assumption) ?_
        simp only [List.setIfInBounds_toArray, List.set_cons_zero, List.set_cons_succ]
        refine take_at (i := 12) 47 rfl rfl (by kernel_rfl) (by kernel_rfl) (by kernel_rfl) (fun _ _ _ h => h) (by rfl) (fun w hSw => by (have hSw2 := id hSw; clear hSw; go_simp; first | done | exact rfl)) (by assumption) ?_
        simp only [List.setIfInBounds_toArray, List.set_cons_zero, List.set_cons_succ]
        refine one_value (i := 13) (v := .int .i64 (d3 : Int)) (w' := wr.drew) 48 (by kernel_rfl) rfl rfl (by rfl) ((exec_min3 rfl rfl rfl).trans (by rw [HM.out])) hS0 (fun _ => ?_)
        simp only [List.setIfInBounds_toArray, List.set_cons_zero, List.set_cons_succ]
        refine one_value (i := 14) (v := .slice (some ⟨wr.drew.heap.size, 0, none⟩) 1 1) (w' := W4) 49 (by kernel_rfl) rfl rfl (by rfl) (by rw [hW4]; go_simp; first | done | exact rfl) hS4 (fun _ => ?_)
        simp only [List.setIfInBounds_toArray, List.set_cons_zero, List.set_cons_succ]
        refine one_value (i := 15) (v := .slice (some ⟨g, off, none⟩) (k + 1 + 1) cap) (w' := W5) 50 (by kernel_rfl) rfl rfl (by rfl) (exec_appE HAP.out) hS5 (fun _ => ?_)
        simp only [List.setIfInBounds_toArray, List.set_cons_zero, List.set_cons_succ]
        refine one_value (i := 16) (v := .slice (some ⟨g, off, none⟩) (k + 1 + 1) cap) (w' := W5) 0 (by kernel_rfl) rfl rfl (by rfl) (by kernel_rfl) hS5 (fun _ => ?_)
        simp only [List.setIfInBounds_toArray, List.set_cons_zero]
        refine wpAnyH_done (by kernel_rfl) ?_ _
        clear HAP hS0 hS4 hS5 hA0 hA1 hR0 hcy HM hW4 HW5
        go_wp2
        go_roundw
        case rel => exact ⟨k + 1, by omega, by rw [HQ.out], rfl, HI5.out, hbut.trans HB5.out⟩
        case measure => simp [intOf]; have := HQ.out; omega
      · have hsb : (s != r) = true := by simpa using hsr
        have hwd0 : IntKind.i64.wrap ((d0 : Int) + 1) = (d0 : Int) + 1 := by rw [IntKind.wrap_i64]; omega
        have HM : Hid (min3 ((d0 : Int) + 1) ((d1 : Int) + 1) ((d2 : Int) + 1) = (d3 : Int)) := by
          have := HNX.out
          rw [if_neg hsr] at this
          unfold Hid min3
          split <;> split at * <;> omega
        clear hsr
        go_wp2
        refine region_at (S := fun W => W.cell? ⟨g, a + q, none⟩ = some (.int .i64 (d1 : Int)) ∧ W.cell? ⟨g, off + k, none⟩ = some (.int .i64 (d2 : Int))) 17 rfl mixedP hS0 (fun _ => ?_)
        refine take_at (i := 0) 35 rfl rfl (by kernel_rfl) (by kernel_rfl) (by kernel_rfl) (fun _ _ _ h => h) (by rfl) (fun w hSw => by (have hSw2 := id hSw; clear hSw; go_simp; first | done | exact rfl)) (by assumption) ?_
        simp only [List.setIfInBounds_toArray, List.set_cons_zero, List.set_cons_succ]
        refine take_at (i := 1) 36 rfl rfl (by kernel_rfl) (by kernel_rfl) (by kernel_rfl) (fun _ _ _ h => h) (by rfl) (fun w hSw => by (have hSw2 := id hSw; clear hSw; go_simp; first | done | exact rfl)) (by assumption) ?_
        simp only [List.setIfInBounds_toArray, List.set_cons_zero, List.set_cons_succ]
        refine take_at (i := 2) 37 rfl rfl (by kernel_rfl) (by kernel_rfl) (by kernel_rfl) (fun _ _ _ h => h) (by rfl) (fun w hSw => by (have hSw2 := id hSw; clear hSw; go_simp; first | done | exact rfl)) (by assumption) ?_
        simp only [List.setIfInBounds_toArray, List.set_cons_zero, List.set_cons_succ]
        refine take_at (i := 3) 38 rfl rfl (by kernel_rfl) (by kernel_rfl) (by kernel_rfl) (fun _ _ _ h => h) (by rfl) (fun w hSw => by (have hSw2 := id hSw; clear hSw; go_simp; first | done | exact rfl)) (by assumption) ?_
        simp only [List.setIfInBounds_toArray, List.set_cons_zero, List.set_cons_succ]
        refine take_at (i := 4) 39 rfl rfl (by kernel_rfl) (by kernel_rfl) (by kernel_rfl) (fun _ _ _ h => h) (by rfl) (fun w hSw => by (have hSw2 := id hSw; clear hSw; go_simp; first | done | exact rfl)) (by assumption) ?_
        simp only [List.setIfInBounds_toArray, List.set_cons_zero, List.set_cons_succ]
        refine take_at (i := 5) 40 rfl rfl (by kernel_rfl) (by kernel_rfl) (by kernel_rfl) (fun _ _ _ h => h) (by rfl) (fun w hSw => by (have hSw2 := id hSw; clear hSw; go_simp; first | done | exact rfl)) (by assumption) ?_
        simp only [List.setIfInBounds_toArray, List.set_cons_zero, List.set_cons_succ]
        refine take_at (i := 6) 41 rfl rfl (by kernel_rfl) (by kernel_rfl) (by kernel_rfl) (fun _ _ _ h => h) (by rfl) (fun w hSw => by (have hSw2 := id hSw; clear hSw; go_simp; first | done | exact rfl)) (by assumption) ?_
        simp only [List.setIfInBounds_toArray, List.set_cons_zero, List.set_cons_succ]
        refine take_at (i := 7) 42 rfl rfl (by kernel_rfl) (by kernel_rfl) (by kernel_rfl) (fun _ _ _ h => h) (by rfl) (fun w hSw => by (have hSw2 := id hSw; clear hSw; go_simp; first | done | exact rfl)) (by assumption) ?_
        simp only [List.setIfInBounds_toArray, List.set_cons_zero, List.set_cons_succ]
        refine take_at (i := 8) 43 rfl rfl (by kernel_rfl) (by kernel_rfl) (by kernel_rfl) (fun _ _ _ h => h) (by rfl) (fun w hSw => by (have hSw2 := id hSw; clear hSw; go_simp; first | done | exact rfl)) (by assumption) ?_
        simp only [List.setIfInBounds_toArray, List.set_cons_zero, List.set_cons_succ]
        refine take_at (i := 9) 44 rfl rfl (by kernel_rfl) (by kernel_rfl) (by kernel_rfl) (fun _ _ _ h => h) (by rfl) (fun w hSw => by (have hSw2 := id hSw; clear hSw; go_simp; first | done | exact rfl)) (by assumption) ?_
        simp only [List.setIfInBounds_toArray, List.set_cons_zero, List.set_cons_succ]
        refine take_at (i := 10) 45 rfl rfl (by kernel_rfl) (by kernel_rfl) (by kernel_rfl) (fun _ _ _ h => h) (by rfl) (fun w hSw => by (have hSw2 := id hSw; clear hSw; go_simp; first | done | exact rfl)) (by assumption) ?_
        simp only [List.setIfInBounds_toArray, List.set_cons_zero, List.set_cons_succ]
        refine take_at (i := 11) 46 rfl rfl (by kernel_rfl) (by kernel_rfl) (by kernel_rfl) (fun _ _ _ h => h) (by rfl) (fun w hSw => by (have hSw2 := id hSw; clear hSw; go_simp; first | done | exact rfl)) (by assumption) ?_
        simp only [List.setIfInBounds_toArray, List.set_cons_zero, List.set_cons_succ]
        refine take_at (i := 12) 47 rfl rfl (by kernel_rfl) (by kernel_rfl) (by kernel_rfl) (fun _ _ _ h => h) (by rfl) (fun w hSw => by (have hSw2 := id hSw; clear hSw; go_simp; first | done | exact rfl)) (by assumption) ?_
        simp only [List.setIfInBounds_toArray, List.set_cons_zero, List.set_cons_succ]
        refine one_value (i := 13) (v := .int .i64 (d3 : Int)) (w' := wr.drew) 48 (by kernel_rfl) rfl rfl (by rfl) ((exec_min3 rfl rfl rfl).trans (by rw [HM.out])) hS0 (fun _ => ?_)
        simp only [List.setIfInBounds_toArray, List.set_cons_zero, List.set_cons_succ]
        refine one_value (i := 14) (v := .slice (some ⟨wr.drew.heap.size, 0, none⟩) 1 1) (w' := W4) 49 (by kernel_rfl) rfl rfl (by rfl) (by rw [hW4]; go_simp; first | done | exact rfl) hS4 (fun _ => ?_)
        simp only [List.setIfInBounds_toArray, List.set_cons_zero, List.set_cons_succ]
        refine one_value (i := 15) (v := .slice (some ⟨g, off, none⟩) (k + 1 + 1) cap) (w' := W5) 50 (by kernel_rfl) rfl rfl (by rfl) (exec_appE HAP.out) hS5 (fun _ => ?_)
        simp only [List.setIfInBounds_toArray, List.set_cons_zero, List.set_cons_succ]
        refine one_value (i := 16) (v := .slice (some ⟨g, off, none⟩) (k + 1 + 1) cap) (w' := W5) 0 (by kernel_rfl) rfl rfl (by rfl) (by kernel_rfl) hS5 (fun _ => ?_)
        simp only [List.setIfInBounds_toArray, List.set_cons_zero]
        refine wpAnyH_done (by kernel_rfl) ?_ _
        clear HAP hS0 hS4 hS5 hA0 hA1 hR0 hcy HM hW4 HW5
        go_wp2
        go_roundw
        case rel => exact ⟨k + 1, by omega, by rw [HQ.out], rfl, HI5.out, hbut.trans HB5.out⟩
        case measure => simp [intOf]; have := HQ.out; omega
    · obtain rfl : k = n := by omega
      go_wp2
      go_ret
      refine ⟨rfl, ?_, hbut⟩
      have := HI.out
      rwa [HN.out, List.take_of_length_le (by rw [dr_len]; omega)] at this
end Go.Proofs.YthfngcpcccbnpaaDoor
