/- Texts that were written apart, joined. -/
import Derived.Test.YtncnefpkfbngaaaGreatDoorE0
import Derived.Test.YtncnefpkfbngaaaGreatDoorJ3
import Derived.Test.YtncnefpkfbngaaaGreatDoorGf
import Derived.ArgAppend
import Derived.Handy
import Derived.Laws.OwnMore
/- Rows of distances in one memory: what lies there, append within the capacity; start and next. -/
namespace Go.Proofs.YtncnefpkfbngaaaGreatDoor
open Go.RowKit Nums Ed
set_option maxRecDepth 100000

/-- Block g holds the numbers cs. -/
def IBlk (w : World) (g : Nat) (cs : List Int) : Prop := w.heap[g]? = some (.cells (cs.map (Value.int .i64)).toArray 3 (0, 0))
theorem IBlk.lt {w : World} {g : Nat} {cs : List Int} (h : IBlk w g cs) : g < w.heap.size := (Array.getElem?_eq_some_iff.1 h).1
theorem IBlk.cell {w : World} {g k : Nat} {cs : List Int} {x : Int} (h : IBlk w g cs) (hk : cs[k]? = some x) : w.cell? ⟨g, k, none⟩ = some (.int .i64 x) := by
 unfold IBlk at h
 simp only [World.cell?, h]
 simp [hk]
theorem IBlk.frozen {w : World} {g : Nat} {cs : List Int} (h : IBlk w g cs) (k : Nat) : w.frozen? ⟨g, k, none⟩ = false := by
 unfold IBlk at h
 simp only [World.frozen?, h]
 simp
theorem IBlk.set {w : World} {g : Nat} {cs : List Int} (h : IBlk w g cs) (k : Nat) (x : Int) : IBlk (w.setCell ⟨g, k, none⟩ (.int .i64 x)) g (cs.set k x) := by
 unfold IBlk at h ⊢
 simp only [World.setCell, Array.getElem?_modify, h]
 simp [List.map_set]
theorem IBlk.same {w w' : World} {g : Nat} {cs : List Int} (h : IBlk w g cs) (e : w'.heap[g]? = w.heap[g]?) : IBlk w' g cs := by
 unfold IBlk at h ⊢; rw [e]; exact h
/-- All that was there is as it was, but for block r. -/
structure But (r : Nat) (w w' : World) : Prop where
 os : w'.os = w.os
 tape : w'.tape = w.tape
 output : w'.output = w.output
 size : w.heap.size ≤ w'.heap.size
 block : ∀ k, k < w.heap.size → k ≠ r → w'.heap[k]? = w.heap[k]?
theorem But.refl (r : Nat) (w : World) : But r w w := ⟨rfl, rfl, rfl, Nat.le_refl _, fun _ _ _ => rfl⟩
theorem But.trans {r : Nat} {a b c : World} (h : But r a b) (k : But r b c) : But r a c :=
 ⟨k.os.trans h.os, k.tape.trans h.tape, k.output.trans h.output, Nat.le_trans h.size k.size, fun i hi hr => (k.block i (Nat.lt_of_lt_of_le hi h.size) hr).trans (h.block i hi hr)⟩
theorem But.of_below {r : Nat} {w w' : World} (h : Below w.heap.size w w') : But r w w' := ⟨h.os, h.tape, h.output, h.size, fun k hk _ => h.block k hk⟩
theorem But.below {r B : Nat} {w w' : World} (h : But r w w') (hr : B ≤ r) (hB : B ≤ w.heap.size) : Below B w w' :=
 ⟨h.os, h.tape, h.output, h.size, fun k hk => h.block k (by omega) (by omega)⟩
theorem But.setCell {r : Nat} {a w : World} (h : But r a w) (o : Nat) (u : Value) : But r a (w.setCell ⟨r, o, none⟩ u) :=
 h.trans ⟨rfl, rfl, rfl, by simp [World.setCell], fun k _ hk => Below.heap_setCell _ _ _ _ hk⟩
theorem IBlk.alloc {w : World} {g : Nat} {cs : List Int} (h : IBlk w g cs) (o : Obj) : IBlk (w.alloc o) g cs := h.same (Below.heap_alloc _ _ _ h.lt)
theorem IBlk.drewN {w : World} {g : Nat} {cs : List Int} (h : IBlk w g cs) (n : Nat) : IBlk (w.drewN n) g cs := h
theorem But.alloc {r : Nat} {a w : World} (h : But r a w) (o : Obj) : But r a (w.alloc o) := h.trans (But.of_below ((Below.refl _ w).alloc (Nat.le_refl _) o))
theorem infoInt : (Tryz.prog.info? 3).map (fun i => (i.zero, i.size, i.bytes)) = some (some (.int .i64 0), 1, 8) := by kernel_rfl
/-- 'append(row, x)', where the row has room. -/
theorem appendI_run {w : World} {g off n cap nb c : Nat} {cs : List Int} {x : Int} (h : IBlk w g cs) (hx : w.cell? ⟨nb, 0, none⟩ = some (.int .i64 x)) (hn : n < cap) (ho : off + n < cs.length) (ty : TypeId) :
 (Builtin.append_ #[90, 90] ty #[.slice (some ⟨g, off, none⟩) n cap, .slice (some ⟨nb, 0, none⟩) 1 c]).run Tryz.prog w = .ok (.slice (some ⟨g, off, none⟩) (n + 1) cap) (w.setCell ⟨g, off + n, none⟩ (.int .i64 x)) := by
 obtain ⟨i0, hi, hz0, hz1, hz2⟩ := info_parts infoInt
 have hadd : ∀ j, (⟨nb, 0, none⟩ : Addr).add j = ⟨nb, 0 + j, none⟩ := fun j => by unfold Addr.add; split <;> simp_all
 have hc : w.cell? ⟨g, off + n, none⟩ = some (.int .i64 cs[off + n]) := h.cell (List.getElem?_eq_getElem ho)
 have hr := run_append_room_cells (P := Tryz.prog) w 90 ty 3 i0 Tryz.underlying90 hi g off n cap ⟨nb, 0, none⟩ 1 c [.int .i64 x] (by rw [hz1]; rfl) (fun j u hj => by
  match j, hj with
  | 0, hj => simp at hj; subst hj; rw [hadd]; exact hx) (by simp [Value.oneCell']) (by omega) (fun j hj => by
   rw [hz1]; simp at hj; subst hj; simp [hc]) (fun j hj => h.frozen _)
 rw [hr, hz1]
 simp [World.setCells]
/-- The same in a walk, where x was just laid in a new block. -/
theorem append_i {W : World} {ops : Array Oper} {rest : List Oper} {o : Oper} {a : Act} {Q : Exit → Act → World → Prop} (hgd : o.guard = none) (s y : Operand) (T2 : TypeId)
 (ho : o.op = .call { callee := .builtin .append, args := #[s, y], argTypes := #[90, 90] }) (g off n cap c nb : Nat) (cs : List Int) (x : Int) (hs : a.eval s = .slice (some ⟨g, off, none⟩) n cap) (hy : a.eval y = .slice (some ⟨nb, 0, none⟩) 1 c) (hnb : nb = W.heap.size) (hB : IBlk W g cs) (hn : n < cap) (hl : off + n < cs.length)
 (h : ∀ w', IBlk w' g (cs.set (off + n) x) → But g W w' → wpList Tryz.prog ops Q rest (a.put o.dst (.slice (some ⟨g, off, none⟩) (n + 1) cap)) w') : wpList Tryz.prog ops Q (o :: rest) a (W.alloc (.cells #[.int .i64 x] T2)) := by
 subst hnb
 have h1 := appendI_run (nb := W.heap.size) (c := c) (x := x) (hB.alloc (.cells #[.int .i64 x] T2)) (by simp) hn hl o.type
 refine wpList_plain hgd fun _ hK => ?_
 unfold Oper.wp execOp
 simp only [ho, resolve, invoke, builtin, Sem.run_bind, Sem.run_pure, Result.andThen_ok, List.map_toArray, List.map_cons, List.map_nil, hs, hy, h1]
 exact hK _ _ (h _ ((hB.alloc _).set _ _) (((But.refl g W).alloc _).setCell _ _))
/-- A row that a call has made can be read. -/
theorem Made.runesE {B : Nat} {w : World} {v : Value} {xs : List Int} (h : Made B w v xs) : RunesAt w.heap.size w v xs := by
 obtain ⟨hl, hn | ⟨g, cap, cur, rfl, hb, hg, h1, h2, h3, h4⟩⟩ := h
 · obtain ⟨rfl, h0⟩ := hn
   exact ⟨none, 0, by rw [h0], fun h => by omega⟩
 · refine ⟨_, _, rfl, fun _ => ⟨g, 0, rfl, (Array.getElem?_eq_some_iff.1 hg).1, fun i x hi => ?_⟩⟩
   have hi' := (List.getElem?_eq_some_iff.1 hi).1
   have hc : cur[i]? = some (.int .i32 x) := by
    have e : (cur.toList.take (xs.length * 1))[i]? = (xs.map (Value.int .i32))[i]? := by rw [h4]
    rw [List.getElem?_take, if_pos (by omega)] at e
    rw [← Array.getElem?_toList, e, List.getElem?_map, hi]
    rfl
   simp only [World.cell?, hg, Nat.zero_add]
   simpa using hc
theorem RunesAt.form {E : Nat} {w : World} {v : Value} {xs : List Int} (h : RunesAt E w v xs) : ∃ ad cap, v = .slice ad xs.length cap := by
 obtain ⟨ad, cap, e, _⟩ := h; exact ⟨ad, cap, e⟩
theorem RunesAt.at {E : Nat} {w : World} {ad : Option Addr} {n cap : Nat} {xs : List Int} (h : RunesAt E w (.slice ad n cap) xs) {k : Nat} {x : Int} (hk : xs[k]? = some x) : ∃ g off, ad = some ⟨g, off, none⟩ ∧ g < E ∧ w.cell? ⟨g, off + k, none⟩ = some (.int .i32 x) := by
 obtain ⟨ad', cap', e, hc⟩ := h
 simp only [Value.slice.injEq] at e
 obtain ⟨rfl, _, rfl⟩ := e
 obtain ⟨g, off, rfl, hg, hx⟩ := hc (by have := (List.getElem?_eq_some_iff.1 hk).1; omega)
 exact ⟨g, off, rfl, hg, hx k x hk⟩
theorem take_dr (p ys : List Int) {k : Nat} (h : k ≤ ys.length) : (dr p ys).take (k + 1) = (dr p ys).take k ++ [(lv p (ys.take k) : Int)] := by
 rw [List.take_add_one, dr_get _ _ h]; rfl
theorem tdr_len (p ys : List Int) {k : Nat} (h : k ≤ ys.length + 1) : ((dr p ys).take k).length = k := by rw [List.length_take, dr_len]; omega

set_option maxHeartbeats 1000000 in
theorem start_any (w : World) (g off cap : Nat) (cs ys : List Int) (hB : IBlk w g cs) (hcap : ys.length < cap) (hl : off + ys.length < cs.length) (hs : ys.length ≤ 100000) :
 Calls Tryz.prog 67 #[.slice (some ⟨g, off, none⟩) 0 cap, .int .i64 ys.length] w fun e w' => e = .returned (.slice (some ⟨g, off, none⟩) (ys.length + 1) cap) ∧ IBlk w' g (lay cs off (dr [] ys)) ∧ But g w w' := by
 obtain ⟨n, hn⟩ : ∃ n, n = ys.length := ⟨_, rfl⟩
 rw [← hn] at hcap hl hs ⊢
 have HN : Hid (n = ys.length) := hn
 clear hn
 go_enter Tryz.func67, Tryz.ntmps67
 go_wp2
 go_loopw [0, 8] (fun v i wr => ∃ k : Nat, k ≤ n + 1 ∧ i = .int .i64 k ∧ v = .slice (some ⟨g, off, none⟩) k cap ∧ IBlk wr g (lay cs off ((dr [] ys).take k)) ∧ But g w wr) (fun _ i _ => n + 1 - (intOf i).toNat)
 case atStart => exact ⟨0, by omega, rfl, rfl, by rw [List.take_zero, lay_nil]; exact hB, But.refl _ _⟩
 case round =>
  obtain ⟨k, hk, rfl, rfl, hI, hbut⟩ := hrel
  have HI : Hid (IBlk wr g (lay cs off ((dr [] ys).take k))) := hI
  clear hI
  by_cases hlt : k < n + 1
  · have hlen : Hid (((dr [] ys).take k).length = k) := tdr_len _ _ (by have := HN.out; omega)
    have hcl : Hid ((lay cs off ((dr [] ys).take k)).length = cs.length) := lay_len (by rw [hlen.out]; omega)
    go_wp2_with (at_builtin; refine append_i rfl _ _ _ rfl g off k cap _ _ (lay cs off ((dr [] ys).take k)) (k : Int) rfl rfl rfl HI.out (by omega) (by rw [hcl.out]; omega) ?_)
    intro w1 hI1 hb1
    have HI1 : Hid (IBlk w1 g (lay cs off ((dr [] ys).take (k + 1)))) := by
     have e := lay_set (cs := cs) (L := (dr [] ys).take k) (b := off) (by rw [hlen.out]; omega) (k : Int)
     rw [hlen.out] at e
     rw [e] at hI1
     rw [List.take_add_one, dr_start _ (by have := HN.out; omega)]
     exact hI1
    clear hI1
    go_wp2
    go_roundw
    case rel => exact ⟨k + 1, by omega, by go_num, rfl, HI1.out, hbut.trans hb1⟩
    case measure => simp [intOf]; omega
  · obtain rfl : k = n + 1 := by omega
    go_wp2
    go_ret
    refine ⟨rfl, ?_, hbut⟩
    have := HI.out
    rwa [HN.out, List.take_of_length_le (by rw [dr_len]; omega)] at this
end Go.Proofs.YtncnefpkfbngaaaGreatDoor

/- edit.next: the next row of distances. -/
namespace Go.Proofs.YtncnefpkfbngaaaGreatDoor
open Go.RowKit Nums Ed
set_option maxRecDepth 100000

theorem new_cell (w : World) (v : Value) (T : TypeId) : (w.alloc (.cells #[v] T)).cell? ⟨w.heap.size, 0, none⟩ = some v := by simp
/-- The least of three. -/
def min3 (a b c : Int) : Int := if c < (if b < a then b else a) then c else (if b < a then b else a)
theorem run_min3 (ts : Array TypeId) (ty : TypeId) (k : IntKind) (a b c : Int) (w : World) : (Builtin.min_ ts ty #[.int k a, .int k b, .int k c]).run Tryz.prog w = .ok (.int k (min3 a b c)) w := by
 simp [Builtin.min_, Builtin.min2, min3, Sem.run_pure]
theorem exec_min3 {ρ : Operand → Value} {x y z : Operand} {ts : Array TypeId} {dst : Option Tmp} {ty : TypeId} {pos : String} {af : Array Edge} {g : Option (Nat × Bool)} {w : World} {k : IntKind} {a b c : Int} (hx : ρ x = .int k a) (hy : ρ y = .int k b) (hz : ρ z = .int k c) :
 (execOp ρ ⟨dst, .call { callee := .builtin .min, args := #[x, y, z], argTypes := ts }, ty, pos, af, g⟩).run Tryz.prog w = .ok (.value (.int k (min3 a b c))) w := by
 unfold execOp
 simp only [resolve, invoke, builtin, Sem.run_bind, Sem.run_pure, Result.andThen_ok, List.map_toArray, List.map_cons, List.map_nil, hx, hy, hz, run_min3]
theorem exec_appE {P : Program} {ρ : Operand → Value} {x y : Operand} {t : TypeId} {dst : Option Tmp} {ty : TypeId} {pos : String} {af : Array Edge} {g : Option (Nat × Bool)} {w w' : World} {v : Value} (h : (Builtin.append_ #[t, t] ty #[ρ x, ρ y]).run P w = .ok v w') :
 (execOp ρ ⟨dst, .call { callee := .builtin .append, args := #[x, y], argTypes := #[t, t] }, ty, pos, af, g⟩).run P w = .ok (.value v) w' := by
 unfold execOp
 simp only [resolve, invoke, builtin, Sem.run_bind, Sem.run_pure, Result.andThen_ok, List.map_toArray, List.map_cons, List.map_nil, h]

set_option maxHeartbeats 1000000 in
theorem next_any (w : World) (g off a cap capa : Nat) (cs p ys : List Int) (r : Int) (vy : Value) (E : Nat) (hB : IBlk w g cs) (hcap : ys.length < cap) (hl : off + ys.length < cs.length)
 (hA : ∀ j, j ≤ ys.length → cs[a + j]? = some (lv p (ys.take j) : Int)) (hap : a + ys.length < off ∨ off + ys.length < a) (hy : RunesAt E w vy ys) (hE : E ≤ g) (hs : ys.length ≤ 100000) (hps : p.length ≤ 100000) :
 Calls Tryz.prog 68 #[.slice (some ⟨g, off, none⟩) 0 cap, .slice (some ⟨g, a, none⟩) (ys.length + 1) capa, .int .i32 r, vy] w fun e w' => e = .returned (.slice (some ⟨g, off, none⟩) (ys.length + 1) cap) ∧ IBlk w' g (lay cs off (dr (p ++ [r]) ys)) ∧ But g w w' := by
 obtain ⟨ady, capy, rfl⟩ := hy.form
 obtain ⟨n, hn⟩ : ∃ n, n = ys.length := ⟨_, rfl⟩
 rw [← hn] at hcap hl hs hap hA hy ⊢
 have HN : Hid (n = ys.length) := hn
 clear hn
 have HA : Hid (∀ j, j ≤ n → cs[a + j]? = some (lv p (ys.take j) : Int)) := hA
 clear hA
 have hc0 : w.cell? ⟨g, a, none⟩ = some (.int .i64 (p.length : Int)) := by
  have := HA.out 0 (Nat.zero_le _)
  rw [List.take_zero, lv_right] at this
  exact hB.cell this
 have HB : Hid (IBlk w g cs) := hB
 have hgl := hB.lt
 clear hB
 go_enter Tryz.func68, Tryz.ntmps68
 go_wp2_with (at_builtin; refine append_i rfl _ _ _ rfl g off 0 cap _ _ cs ((p.length : Int) + 1) rfl rfl rfl HB.out (by omega) (by omega) ?_)
 intro w1 hI1 hb1
 have HI1 : Hid (IBlk w1 g (lay cs off ((dr (p ++ [r]) ys).take 1))) := by
  have e := lay_set (cs := cs) (L := []) (b := off) (by simp; omega) ((p.length : Int) + 1)
  rw [lay_nil] at e
  simp only [List.length_nil, Nat.add_zero] at e
  rw [e] at hI1
  rw [take_dr _ _ (Nat.zero_le _), List.take_zero, List.take_zero, lv_right, List.nil_append]
  exact (by simpa using hI1 : IBlk w1 g (lay cs off [((p ++ [r]).length : Int)]))
 clear hI1 hc0
 go_wp2
 go_loopw [0, 21] (fun v i wr => ∃ k : Nat, k ≤ n ∧ i = .int .i64 k ∧ v = .slice (some ⟨g, off, none⟩) (k + 1) cap ∧ IBlk wr g (lay cs off ((dr (p ++ [r]) ys).take (k + 1))) ∧ But g w wr) (fun _ i _ => n - (intOf i).toNat)
 case atStart => exact ⟨0, by omega, rfl, rfl, HI1.out, hb1⟩
 case round =>
  obtain ⟨k, hk, rfl, rfl, hI, hbut⟩ := hrel
  have HI : Hid (IBlk wr g (lay cs off ((dr (p ++ [r]) ys).take (k + 1)))) := hI
  clear hI
  by_cases hlt : k < n
  · have hlen : Hid (((dr (p ++ [r]) ys).take (k + 1)).length = k + 1) := tdr_len _ _ (by have := HN.out; omega)
    have hcl : Hid ((lay cs off ((dr (p ++ [r]) ys).take (k + 1))).length = cs.length) := lay_len (by rw [hlen.out]; omega)
    have hky : k < ys.length := by have := HN.out; omega
    obtain ⟨s, hs'⟩ : ∃ s, ys[k]? = some s := ⟨_, List.getElem?_eq_getElem hky⟩
    have HS : Hid (ys[k]? = some s) := hs'
    clear hs'
    obtain ⟨gy, offy, rfl, hgy, hcy⟩ := (hy.below (hbut.below hE (by omega))).at HS.out
    have hA0 : wr.cell? ⟨g, a + k, none⟩ = some (.int .i64 (lv p (ys.take k) : Int)) := HI.out.cell (by rw [lay_out (by rw [hlen.out]; omega) (by rw [hlen.out]; omega)]; exact HA.out k (by omega))
    have hA1 : wr.cell? ⟨g, a + (k + 1), none⟩ = some (.int .i64 (lv p (ys.take (k + 1)) : Int)) := HI.out.cell (by rw [lay_out (by rw [hlen.out]; omega) (by rw [hlen.out]; omega)]; exact HA.out (k + 1) (by omega))
    have hR0 : wr.cell? ⟨g, off + k, none⟩ = some (.int .i64 (lv (p ++ [r]) (ys.take k) : Int)) := HI.out.cell (by rw [lay_in (by rw [hlen.out]; omega) (by rw [hlen.out]; omega), List.getElem?_take, if_pos (by omega), dr_get _ _ (by omega)])
    have b0 := dr_bd p ys k
    have b1 := dr_bd p ys (k + 1)
    have b2 := dr_bd (p ++ [r]) ys k
    rw [List.length_append, List.length_singleton, ← HN.out] at b2
    rw [← HN.out] at b0 b1
    have HNX : Hid _ := dr_next p ys r HS.out
    generalize hd0 : lv p (ys.take k) = d0 at *
    generalize hd1 : lv p (ys.take (k + 1)) = d1 at *
    generalize hd2 : lv (p ++ [r]) (ys.take k) = d2 at *
    clear hd0 hd1 hd2
    obtain ⟨q, hq⟩ : ∃ q, q = k + 1 := ⟨_, rfl⟩
    rw [← hq] at hA1
    have hwq : IntKind.i64.wrap ((k : Int) + 1) = (q : Int) := by rw [IntKind.wrap_i64]; omega
    have hqn : (q : Int) < (n : Int) + 1 := by omega
    have hq0 : (0 : Int) ≤ (q : Int) := by omega
    have hkn : (k : Int) < (k : Int) + 1 := by omega
    have hqt : (q : Int).toNat = q := rfl
    have hwd1 : IntKind.i64.wrap ((d1 : Int) + 1) = (d1 : Int) + 1 := by rw [IntKind.wrap_i64]; omega
    have hwd2 : IntKind.i64.wrap ((d2 : Int) + 1) = (d2 : Int) + 1 := by rw [IntKind.wrap_i64]; omega
    have HQ : Hid (q = k + 1) := hq
    clear hq
    obtain ⟨d3, hd3⟩ : ∃ d3, d3 = lv (p ++ [r]) (ys.take (k + 1)) := ⟨_, rfl⟩
    rw [← hd3] at HNX
    have HD3 : Hid (d3 = lv (p ++ [r]) (ys.take (k + 1))) := hd3
    clear hd3
    have hS0 : wr.drew.cell? ⟨g, a + q, none⟩ = some (.int .i64 (d1 : Int)) ∧ wr.drew.cell? ⟨g, off + k, none⟩ = some (.int .i64 (d2 : Int)) := ⟨hA1, hR0⟩
    obtain ⟨W4, hW4⟩ : ∃ W4, W4 = wr.drew.alloc (.cells #[.int .i64 (d3 : Int)] 3) := ⟨_, rfl⟩
    have hI4 : IBlk W4 g (lay cs off ((dr (p ++ [r]) ys).take (k + 1))) := by rw [hW4]; exact IBlk.alloc (w := wr.drew) HI.out _
    have hS4 : W4.cell? ⟨g, a + q, none⟩ = some (.int .i64 (d1 : Int)) ∧ W4.cell? ⟨g, off + k, none⟩ = some (.int .i64 (d2 : Int)) := by
     have hb : Below wr.drew.heap.size wr.drew W4 := by rw [hW4]; exact (Below.refl _ _).alloc (Nat.le_refl _) _
     have hlt' : g < wr.drew.heap.size := HI.out.lt
     exact ⟨(hb.cell (p := ⟨g, a + q, none⟩) hlt').trans hS0.1, (hb.cell (p := ⟨g, off + k, none⟩) hlt').trans hS0.2⟩
    have hap4 := appendI_run (x := (d3 : Int)) (nb := wr.drew.heap.size) (c := 1) (n := k + 1) (cap := cap) (off := off) hI4 (by rw [hW4]; exact new_cell wr.drew _ _) (by omega) (by rw [hcl.out]; omega) 90
    obtain ⟨W5, hW5⟩ : ∃ W5, W5 = W4.setCell ⟨g, off + (k + 1), none⟩ (.int .i64 (d3 : Int)) := ⟨_, rfl⟩
    rw [← hW5] at hap4
    have HAP : Hid ((Builtin.append_ #[90, 90] 90 #[.slice (some ⟨g, off, none⟩) (k + 1) cap, .slice (some ⟨wr.drew.heap.size, 0, none⟩) 1 1]).run Tryz.prog W4 = .ok (.slice (some ⟨g, off, none⟩) (k + 1 + 1) cap) W5) := hap4
    have hS5 : W5.cell? ⟨g, a + q, none⟩ = some (.int .i64 (d1 : Int)) ∧ W5.cell? ⟨g, off + k, none⟩ = some (.int .i64 (d2 : Int)) := by
     rw [hW5]
     refine ⟨?_, ?_⟩
     · rw [World.cell?_setCell_other _ _ _ _ (by intro e; have h2 : off + (k + 1) = a + q := congrArg Addr.off e; have := HQ.out; omega)]; exact hS4.1
     · rw [World.cell?_setCell_other _ _ _ _ (by simp)]; exact hS4.2
    have HB5 : Hid (But g wr W5) := by
     show But g wr W5
     rw [hW5]
     refine But.setCell ?_ _ _
     rw [hW4]
     exact ((show But g wr wr.drew from ⟨rfl, rfl, rfl, Nat.le_refl _, fun _ _ _ => rfl⟩).alloc _)
    have HI5 : Hid (IBlk W5 g (lay cs off ((dr (p ++ [r]) ys).take (k + 1 + 1)))) := by
     show IBlk W5 g (lay cs off ((dr (p ++ [r]) ys).take (k + 1 + 1)))
     have e := lay_set (cs := cs) (L := (dr (p ++ [r]) ys).take (k + 1)) (b := off) (by rw [hlen.out]; omega) (d3 : Int)
     rw [hlen.out] at e
     rw [take_dr (p ++ [r]) ys (k := k + 1) (by have := HN.out; omega), ← HD3.out, ← e, hW5]
     exact hI4.set _ _
    have HW5 : Hid (W5 = W4.setCell ⟨g, off + (k + 1), none⟩ (.int .i64 (d3 : Int))) := hW5
    clear hW5 hI4 hap4
    by_cases hsr : s = r
    · subst hsr
      have HM : Hid (min3 (d0 : Int) ((d1 : Int) + 1) ((d2 : Int) + 1) = (d3 : Int)) := by
       have := HNX.out
       rw [if_pos rfl] at this
       unfold Hid min3
       split <;> split at * <;> omega
      go_wp2
      refine region_at (S := fun W => W.cell? ⟨g, a + q, none⟩ = some (.int .i64 (d1 : Int)) ∧ W.cell? ⟨g, off + k, none⟩ = some (.int .i64 (d2 : Int))) 17 rfl mixedP hS0 (fun _ => ?_)
      refine tk (i := 0) 35 rfl rfl (by kernel_rfl) (fun _ s => by (have h := id s; clear s; go_simp; first | done | exact rfl)) ?_
      simp only [sZa, sZb, sZc]
      refine tk (i := 1) 36 rfl rfl (by kernel_rfl) (fun _ s => by (have h := id s; clear s; go_simp; first | done | exact rfl)) ?_
      simp only [sZa, sZb, sZc]
      refine tk (i := 2) 37 rfl rfl (by kernel_rfl) (fun _ s => by (have h := id s; clear s; go_simp; first | done | exact rfl)) ?_
      simp only [sZa, sZb, sZc]
      refine tk (i := 3) 38 rfl rfl (by kernel_rfl) (fun _ s => by (have h := id s; clear s; go_simp; first | done | exact rfl)) ?_
      simp only [sZa, sZb, sZc]
      refine tk (i := 4) 39 rfl rfl (by kernel_rfl) (fun _ s => by (have h := id s; clear s; go_simp; first | done | exact rfl)) ?_
      simp only [sZa, sZb, sZc]
      refine tk (i := 5) 40 rfl rfl (by kernel_rfl) (fun _ s => by (have h := id s; clear s; go_simp; first | done | exact rfl)) ?_
      simp only [sZa, sZb, sZc]
      refine tk (i := 6) 41 rfl rfl (by kernel_rfl) (fun _ s => by (have h := id s; clear s; go_simp; first | done | exact rfl)) ?_
      simp only [sZa, sZb, sZc]
      refine tk (i := 7) 42 rfl rfl (by kernel_rfl) (fun _ s => by (have h := id s; clear s; go_simp; first | done | exact rfl)) ?_
      simp only [sZa, sZb, sZc]
      refine tk (i := 8) 43 rfl rfl (by kernel_rfl) (fun _ s => by (have h := id s; clear s; go_simp; first | done | exact rfl)) ?_
      simp only [sZa, sZb, sZc]
      refine tk (i := 9) 44 rfl rfl (by kernel_rfl) (fun _ s => by (have h := id s; clear s; go_simp; first | done | exact rfl)) ?_
      simp only [sZa, sZb, sZc]
      refine tk (i := 10) 45 rfl rfl (by kernel_rfl) (fun _ s => by (have h := id s; clear s; go_simp; first | done | exact rfl)) ?_
      simp only [sZa, sZb, sZc]
      refine tk (i := 11) 46 rfl rfl (by kernel_rfl) (fun _ s => by (have h := id s; clear s; go_simp; first | done | exact rfl)) ?_
      simp only [sZa, sZb, sZc]
      refine tk (i := 12) 47 rfl rfl (by kernel_rfl) (fun _ s => by (have h := id s; clear s; go_simp; first | done | exact rfl)) ?_
      simp only [sZa, sZb, sZc]
      refine one_value (i := 13) (v := .int .i64 (d3 : Int)) (w' := wr.drew) 48 (by kernel_rfl) rfl rfl (by rfl) ((exec_min3 rfl rfl rfl).trans (by rw [HM.out])) hS0 (fun _ => ?_)
      simp only [sZa, sZb, sZc]
      refine one_value (i := 14) (v := .slice (some ⟨wr.drew.heap.size, 0, none⟩) 1 1) (w' := W4) 49 (by kernel_rfl) rfl rfl (by rfl) (by rw [hW4]; go_simp; first | done | exact rfl) hS4 (fun _ => ?_)
      simp only [sZa, sZb, sZc]
      refine one_value (i := 15) (v := .slice (some ⟨g, off, none⟩) (k + 1 + 1) cap) (w' := W5) 50 (by kernel_rfl) rfl rfl (by rfl) (exec_appE HAP.out) hS5 (fun _ => ?_)
      simp only [sZa, sZb, sZc]
      refine one_value (i := 16) (v := .slice (some ⟨g, off, none⟩) (k + 1 + 1) cap) (w' := W5) 0 (by kernel_rfl) rfl rfl (by rfl) (by kernel_rfl) hS5 (fun _ => ?_)
      simp only [List.setIfInBounds_toArray, List.set_cons_zero]
      refine wpAnyH_done (by kernel_rfl) ?_ _
      clear HAP hS0 hS4 hS5 hA0 hA1 hR0 hcy HM hW4 HW5
      go_wp2
      go_roundw
      case rel => exact ⟨k + 1, by omega, by rw [HQ.out], rfl, HI5.out, hbut.trans HB5.out⟩
      case measure => simp [intOf]; have := HQ.out; omega
    · have hsb : (s != r) = true := by simpa using hsr
      have hwd0 : IntKind.i64.wrap ((d0 : Int) + 1) = (d0 : Int) + 1 := by rw [IntKind.wrap_i64]; omega
      have HM : Hid (min3 ((d0 : Int) + 1) ((d1 : Int) + 1) ((d2 : Int) + 1) = (d3 : Int)) := by
       have := HNX.out
       rw [if_neg hsr] at this
       unfold Hid min3
       split <;> split at * <;> omega
      clear hsr
      go_wp2
      refine region_at (S := fun W => W.cell? ⟨g, a + q, none⟩ = some (.int .i64 (d1 : Int)) ∧ W.cell? ⟨g, off + k, none⟩ = some (.int .i64 (d2 : Int))) 17 rfl mixedP hS0 (fun _ => ?_)
      refine tk (i := 0) 35 rfl rfl (by kernel_rfl) (fun _ s => by (have h := id s; clear s; go_simp; first | done | exact rfl)) ?_
      simp only [sZa, sZb, sZc]
      refine tk (i := 1) 36 rfl rfl (by kernel_rfl) (fun _ s => by (have h := id s; clear s; go_simp; first | done | exact rfl)) ?_
      simp only [sZa, sZb, sZc]
      refine tk (i := 2) 37 rfl rfl (by kernel_rfl) (fun _ s => by (have h := id s; clear s; go_simp; first | done | exact rfl)) ?_
      simp only [sZa, sZb, sZc]
      refine tk (i := 3) 38 rfl rfl (by kernel_rfl) (fun _ s => by (have h := id s; clear s; go_simp; first | done | exact rfl)) ?_
      simp only [sZa, sZb, sZc]
      refine tk (i := 4) 39 rfl rfl (by kernel_rfl) (fun _ s => by (have h := id s; clear s; go_simp; first | done | exact rfl)) ?_
      simp only [sZa, sZb, sZc]
      refine tk (i := 5) 40 rfl rfl (by kernel_rfl) (fun _ s => by (have h := id s; clear s; go_simp; first | done | exact rfl)) ?_
      simp only [sZa, sZb, sZc]
      refine tk (i := 6) 41 rfl rfl (by kernel_rfl) (fun _ s => by (have h := id s; clear s; go_simp; first | done | exact rfl)) ?_
      simp only [sZa, sZb, sZc]
      refine tk (i := 7) 42 rfl rfl (by kernel_rfl) (fun _ s => by (have h := id s; clear s; go_simp; first | done | exact rfl)) ?_
      simp only [sZa, sZb, sZc]
      refine tk (i := 8) 43 rfl rfl (by kernel_rfl) (fun _ s => by (have h := id s; clear s; go_simp; first | done | exact rfl)) ?_
      simp only [sZa, sZb, sZc]
      refine tk (i := 9) 44 rfl rfl (by kernel_rfl) (fun _ s => by (have h := id s; clear s; go_simp; first | done | exact rfl)) ?_
      simp only [sZa, sZb, sZc]
      refine tk (i := 10) 45 rfl rfl (by kernel_rfl) (fun _ s => by (have h := id s; clear s; go_simp; first | done | exact rfl)) ?_
      simp only [sZa, sZb, sZc]
      refine tk (i := 11) 46 rfl rfl (by kernel_rfl) (fun _ s => by (have h := id s; clear s; go_simp; first | done | exact rfl)) ?_
      simp only [sZa, sZb, sZc]
      refine tk (i := 12) 47 rfl rfl (by kernel_rfl) (fun _ s => by (have h := id s; clear s; go_simp; first | done | exact rfl)) ?_
      simp only [sZa, sZb, sZc]
      refine one_value (i := 13) (v := .int .i64 (d3 : Int)) (w' := wr.drew) 48 (by kernel_rfl) rfl rfl (by rfl) ((exec_min3 rfl rfl rfl).trans (by rw [HM.out])) hS0 (fun _ => ?_)
      simp only [sZa, sZb, sZc]
      refine one_value (i := 14) (v := .slice (some ⟨wr.drew.heap.size, 0, none⟩) 1 1) (w' := W4) 49 (by kernel_rfl) rfl rfl (by rfl) (by rw [hW4]; go_simp; first | done | exact rfl) hS4 (fun _ => ?_)
      simp only [sZa, sZb, sZc]
      refine one_value (i := 15) (v := .slice (some ⟨g, off, none⟩) (k + 1 + 1) cap) (w' := W5) 50 (by kernel_rfl) rfl rfl (by rfl) (exec_appE HAP.out) hS5 (fun _ => ?_)
      simp only [sZa, sZb, sZc]
      refine one_value (i := 16) (v := .slice (some ⟨g, off, none⟩) (k + 1 + 1) cap) (w' := W5) 0 (by kernel_rfl) rfl rfl (by rfl) (by kernel_rfl) hS5 (fun _ => ?_)
      simp only [List.setIfInBounds_toArray, List.set_cons_zero]
      refine wpAnyH_done (by kernel_rfl) ?_ _
      clear HAP hS0 hS4 hS5 hA0 hA1 hR0 hcy HM hW4 HW5
      go_wp2
      go_roundw
      case rel => exact ⟨k + 1, by omega, by rw [HQ.out], rfl, HI5.out, hbut.trans HB5.out⟩
      case measure => simp [intOf]; have := HQ.out; omega
  · obtain rfl : k = n := by omega
    go_wp2
    go_ret
    refine ⟨rfl, ?_, hbut⟩
    have := HI.out
    rwa [HN.out, List.take_of_length_le (by rw [dr_len]; omega)] at this
end Go.Proofs.YtncnefpkfbngaaaGreatDoor

/- edit.rows, read, both. -/
namespace Go.Proofs.YtncnefpkfbngaaaGreatDoor
open Go.RowKit Nums Ed
set_option maxRecDepth 100000

set_option maxHeartbeats 1000000 in
theorem read_any (s : ByteArray) (w : World) (ht : Tabs w) (hm : s.size ≤ 9223372036854775807) :
 Calls Tryz.prog 87 #[.string s] w fun e w' => ∃ v f, e = .returned (.tuple #[v, .bool f]) ∧ Below w.heap.size w w' ∧
  ((f = false ∧ rsE s.data.toList = none) ∨ (f = true ∧ ∃ xs, rsE s.data.toList = some xs ∧ Made w.heap.size w' v xs)) := by
 by_cases hlen : 4096 < s.size
 · have HF : Hid (rsE s.data.toList = none) := rsE_far (by rw [size_length]; exact hlen)
   go_enter Tryz.func87, Tryz.ntmps87
   go_wp2
   go_ret2
   exact ⟨_, _, rfl, Below.refl _ _, .inl ⟨rfl, HF.out⟩⟩
 · have HR : Hid (Room s.data.toList) := room_of_length (by rw [size_length]; omega)
   go_enter Tryz.func87, Tryz.ntmps87
   go_upto_region 4 with (go_at_call 34; refine (Runes_any s _ ht (by omega) HR.out).mono ?_; rintro e w1 ⟨v, hb1, ⟨hn, rfl, rfl⟩ | ⟨xs, hsome, rfl, hmade⟩⟩)
   · have HF : Hid (rsE s.data.toList = none) := rsE_none hn
     clear hn
     go_wp2
     go_returns
     exact ⟨_, _, rfl, hb1, .inl ⟨rfl, HF.out⟩⟩
   · obtain ⟨ad, cap, rfl⟩ := hmade.runesE.form
     by_cases hx : xs.length ≤ 1024
     · have HF : Hid (rsE s.data.toList = some xs) := rsE_some hsome hx
       clear hsome
       go_wp2
       go_returns
       exact ⟨_, _, rfl, hb1, .inr ⟨by simp; omega, xs, HF.out, hmade⟩⟩
     · have HF : Hid (rsE s.data.toList = none) := rsE_long hsome hx
       clear hsome
       go_wp2
       go_returns
       exact ⟨_, _, rfl, hb1, .inl ⟨by simp; omega, HF.out⟩⟩

/-- What both tells of two texts. -/
def BothSays (w w' : World) (a b : List UInt8) (v u : Value) (f : Bool) : Prop :=
 Below w.heap.size w w' ∧ ((f = false ∧ dsE a b = none) ∨ (f = true ∧ ∃ xs ys, rsE a = some xs ∧ rsE b = some ys ∧ Made w.heap.size w' v xs ∧ Made w.heap.size w' u ys))
theorem Made.mono {B B' : Nat} {w : World} {v : Value} {xs : List Int} (h : Made B w v xs) (hB : B' ≤ B) : Made B' w v xs := by
 obtain ⟨hl, hn | ⟨g, cap, cur, rfl, h1, h2⟩⟩ := h
 · exact ⟨hl, .inl hn⟩
 · exact ⟨hl, .inr ⟨g, cap, cur, rfl, by omega, h2⟩⟩
set_option maxHeartbeats 1000000 in
theorem both_any (a b : ByteArray) (w : World) (ht : Tabs w) (ha : a.size ≤ 9223372036854775807) (hb : b.size ≤ 9223372036854775807) :
 Calls Tryz.prog 65 #[.string a, .string b] w fun e w' => ∃ v u f, e = .returned (.tuple #[v, u, .bool f]) ∧ BothSays w w' a.data.toList b.data.toList v u f := by
 go_enter Tryz.func65, Tryz.ntmps65
 go_upto_region 2 with (go_at_call 87; refine (read_any a _ ht ha).mono ?_; rintro e w1 ⟨v, f, rfl, hb1, hcase⟩)
 have ht1 : Tabs w1 := ht.below hb1
 go_upto_region 3 with (go_at_call 87; refine (read_any b _ ht1 hb).mono ?_; rintro e w2 ⟨u, f2, rfl, hb2, hcase2⟩)
 have hb12 : Below w.heap.size w w2 := hb1.trans (hb2.mono hb1.size)
 have HF : Hid (BothSays w w2 a.data.toList b.data.toList v u (f && f2)) := by
  refine ⟨hb12, ?_⟩
  rcases hcase with ⟨rfl, h1⟩ | ⟨rfl, xs, h1, m1⟩
  · exact .inl ⟨rfl, dsE_left h1⟩
  · rcases hcase2 with ⟨rfl, h2⟩ | ⟨rfl, ys, h2, m2⟩
    · exact .inl ⟨rfl, dsE_right h2⟩
    · exact .inr ⟨rfl, xs, ys, h1, h2, m1.below hb2, m2.mono hb1.size⟩
 clear hcase hcase2 hb12
 cases f
 all_goals
  go_wp2
  go_returns
  exact ⟨_, _, _, rfl, HF.out⟩
end Go.Proofs.YtncnefpkfbngaaaGreatDoor

/- edit.rows and edit.Distance. -/
namespace Go.Proofs.YtncnefpkfbngaaaGreatDoor
open Go.RowKit Nums Ed
set_option maxRecDepth 100000

/-- Block gl holds the values vs, each a slice of numbers. -/
def LBlk (w : World) (gl : Nat) (vs : List Value) : Prop := w.heap[gl]? = some (.cells vs.toArray 90 (0, 0))
theorem LBlk.lt {w : World} {g : Nat} {vs : List Value} (h : LBlk w g vs) : g < w.heap.size := (Array.getElem?_eq_some_iff.1 h).1
theorem LBlk.cell {w : World} {g k : Nat} {vs : List Value} {x : Value} (h : LBlk w g vs) (hk : vs[k]? = some x) : w.cell? ⟨g, k, none⟩ = some x := by
 unfold LBlk at h
 simp only [World.cell?, h]
 simp [hk]
theorem LBlk.frozen {w : World} {g : Nat} {vs : List Value} (h : LBlk w g vs) (k : Nat) : w.frozen? ⟨g, k, none⟩ = false := by
 unfold LBlk at h
 simp only [World.frozen?, h]
 simp
theorem LBlk.set {w : World} {g : Nat} {vs : List Value} (h : LBlk w g vs) (k : Nat) (x : Value) : LBlk (w.setCell ⟨g, k, none⟩ x) g (vs.set k x) := by
 unfold LBlk at h ⊢
 simp only [World.setCell, Array.getElem?_modify, h]
 simp
theorem LBlk.same {w w' : World} {g : Nat} {vs : List Value} (h : LBlk w g vs) (e : w'.heap[g]? = w.heap[g]?) : LBlk w' g vs := by
 unfold LBlk at h ⊢; rw [e]; exact h
theorem LBlk.but {w w' : World} {g r : Nat} {vs : List Value} (h : LBlk w g vs) (hb : But r w w') (hr : g ≠ r) : LBlk w' g vs := h.same (hb.block g h.lt hr)
/-- The rows that are there when k of them are cut. -/
def rowsV (g W n k : Nat) : List Value := (List.range n).map fun i => if i < k then .slice (some ⟨g, i * W, none⟩) 0 W else .slice none 0 0
theorem rowsV_len (g W n k : Nat) : (rowsV g W n k).length = n := by simp [rowsV]
theorem rowsV_get (g W n k : Nat) {i : Nat} (h : i < n) : (rowsV g W n k)[i]? = some (if i < k then .slice (some ⟨g, i * W, none⟩) 0 W else .slice none 0 0) := by
 unfold rowsV
 rw [List.getElem?_map, List.getElem?_range h]
 rfl
theorem rowsV_set (g W n k : Nat) : (rowsV g W n k).set k (.slice (some ⟨g, k * W, none⟩) 0 W) = rowsV g W n (k + 1) := by
 apply List.ext_getElem?
 intro i
 rw [List.getElem?_set]
 by_cases hi : i < n
 · rw [rowsV_get _ _ _ _ hi, rowsV_get _ _ _ _ hi, rowsV_len]
   by_cases e : k = i
   · subst e; rw [if_pos rfl, if_pos hi, if_pos (by omega)]
   · rw [if_neg e]
     by_cases c : i < k
     · rw [if_pos c, if_pos (by omega)]
     · rw [if_neg c, if_neg (by omega)]
 · rw [List.getElem?_eq_none (by rw [rowsV_len]; omega), List.getElem?_eq_none (by rw [rowsV_len]; omega), rowsV_len]
   split
   · rw [if_neg (by omega)]
   · rfl
theorem rowsV_zero (g W n : Nat) : rowsV g W n 0 = List.replicate n (.slice none 0 0) := by
 apply List.ext_getElem?
 intro i
 by_cases hi : i < n
 · rw [rowsV_get _ _ _ _ hi, if_neg (by omega), List.getElem?_replicate, if_pos hi]
 · rw [List.getElem?_eq_none (by rw [rowsV_len]; omega), List.getElem?_eq_none (by simp; omega)]
theorem infoSlice : (Tryz.prog.info? 90).map (fun i => (i.zero, i.size, i.bytes)) = some (some (.slice none 0 0), 1, 24) := by kernel_rfl
theorem own_block {w : World} {B g n : Nat} {T : TypeId} {xs : List Value} (h : w.ownsRow B T 1 (.slice (some ⟨g, 0, none⟩) n n) n xs) : w.heap[g]? = some (.cells xs.toArray T (0, 0)) := by
 obtain ⟨hl, ⟨e, _⟩ | ⟨g', cap, cur, e, h1, hg, h2, h3, h4, h5⟩⟩ := h
 · cases e
 · simp only [Value.slice.injEq, Option.some.injEq, Addr.mk.injEq] at e
   obtain ⟨⟨rfl, _, _⟩, _, rfl⟩ := e
   rw [hg]
   have : cur = xs.toArray := by
    rw [← h5, List.take_of_length_le (by rw [Array.length_toList, h4]; omega)]
   rw [this]

theorem made_ints (N : Nat) : (madeCells (Value.int .i64 0).cells (N * 1)).toList = (List.replicate N (0 : Int)).map (Value.int .i64) := by
 rw [show (Value.int .i64 0).cells = #[.int .i64 0] from rfl, Nat.mul_one, toList_madeCells_one, List.map_replicate]
theorem made_slices (N : Nat) : (madeCells (Value.slice none 0 0).cells (N * 1)).toList = List.replicate N (Value.slice none 0 0) := by
 rw [show (Value.slice none 0 0).cells = #[.slice none 0 0] from rfl, Nat.mul_one, toList_madeCells_one]
set_option maxHeartbeats 1000000 in
theorem rows_any (n W : Nat) (w : World) (hn1 : 1 ≤ n) (hW1 : 1 ≤ W) (hn : n ≤ 100000) (hW : W ≤ 100000) :
 Calls Tryz.prog 66 #[.int .i64 n, .int .i64 W] w fun e w' => ∃ g gl, e = .returned (.slice (some ⟨gl, 0, none⟩) n n) ∧ LBlk w' gl (rowsV g W n n) ∧ IBlk w' g (List.replicate (n * W) 0) ∧ Below w.heap.size w w' ∧ w.heap.size ≤ g ∧ w.heap.size ≤ gl ∧ gl ≠ g := by
 obtain ⟨i0, hi, hz0, hz1, hz2⟩ := info_parts infoInt
 obtain ⟨i1, hi1, hy0, hy1, hy2⟩ := info_parts infoSlice
 obtain ⟨N, hN⟩ : ∃ N, N = n * W := ⟨_, rfl⟩
 have hNb : N ≤ 10000000000 := by rw [hN]; exact Nat.le_trans (Nat.mul_le_mul hn hW) (by decide)
 have hwN : IntKind.i64.wrap ((n : Int) * (W : Int)) = (N : Int) := by rw [← Int.natCast_mul, ← hN, IntKind.wrap_i64]; omega
 have HN : Hid (N = n * W) := hN
 rw [← hN]
 clear hN
 go_enter Tryz.func66, Tryz.ntmps66
 go_upto_region 2 with (at_make; refine wpList_make_full _ rfl _ _ 90 rfl w.heap.size 3 i0 (.int .i64 0) 1 Tryz.underlying90 hi hz0 hz1 _ _ _ _ N rfl rfl rfl rfl (by rw [hz2]; omega) (by unfold maxLen; omega) (Nat.le_refl _) ?_; intro w1 hown1 hgrow1)
 have hI1 : IBlk w1 w.heap.size (List.replicate N 0) := by
  have := own_block hown1
  unfold IBlk
  rw [this, made_ints]
 have hs1 := hgrow1.size
 have hb1 : Below w.heap.size w w1 := (Below.refl _ w).grown hgrow1 (Nat.le_refl _) (fun k hk => by cases hk)
 clear hown1 hgrow1
 obtain ⟨g, hg⟩ : ∃ g, g = w.heap.size := ⟨_, rfl⟩
 rw [← hg] at hI1
 simp only [← hg]
 have HG : Hid (g = w.heap.size) := hg
 have hgl1 := hI1.lt
 clear hg
 have HI1 : Hid (IBlk w1 g (List.replicate N 0)) := hI1
 clear hI1
 go_upto_region 3 with (at_make; refine wpList_make_full _ rfl _ _ 124 rfl w1.heap.size 90 i1 (.slice none 0 0) 1 Tryz.underlying124 hi1 hy0 hy1 _ _ _ _ n rfl rfl rfl rfl (by rw [hy2]; omega) (by unfold maxLen; omega) (Nat.le_refl _) ?_; intro w2 hown2 hgrow2)
 have hL2 : LBlk w2 w1.heap.size (rowsV g W n 0) := by
  have := own_block hown2
  unfold LBlk
  rw [this, made_slices, rowsV_zero]
 have hb2 : Below w1.heap.size w1 w2 := (Below.refl _ w1).grown hgrow2 (Nat.le_refl _) (fun k hk => by cases hk)
 have hI2 : IBlk w2 g (List.replicate N 0) := HI1.out.same (hb2.block g hgl1)
 clear hown2 hgrow2 HI1
 obtain ⟨gl, hgl⟩ : ∃ gl, gl = w1.heap.size := ⟨_, rfl⟩
 rw [← hgl] at hL2
 simp only [← hgl]
 have HGL : Hid (gl = w1.heap.size) := hgl
 have hgne : gl ≠ g := by omega
 have hb02 : Below w.heap.size w w2 := hb1.trans (hb2.mono hb1.size)
 clear hgl hb1 hb2
 go_wp2
 go_loopw [17] (fun i wr => ∃ k : Nat, k ≤ n ∧ i = .int .i64 k ∧ LBlk wr gl (rowsV g W n k) ∧ IBlk wr g (List.replicate N 0) ∧ Below w.heap.size w wr) (fun i _ => n - (intOf i).toNat)
 case atStart => exact ⟨0, by omega, rfl, hL2, hI2, hb02⟩
 case round =>
  obtain ⟨k, hk, rfl, hL, hI, hbel⟩ := hrel
  by_cases hlt : k < n
  · have hc : wr.cell? ⟨gl, k, none⟩ = some (.slice none 0 0) := hL.cell (by rw [rowsV_get _ _ _ _ hlt, if_neg (by omega)])
    have hf := hL.frozen k
    obtain ⟨m, hm⟩ : ∃ m, m = k * W := ⟨_, rfl⟩
    have hmN : m + W ≤ N := by
     rw [hm, HN.out]
     have := Nat.mul_le_mul_right W (show k + 1 ≤ n from hlt)
     rw [Nat.add_mul] at this
     omega
    have hwm : IntKind.i64.wrap ((k : Int) * (W : Int)) = (m : Int) := by rw [← Int.natCast_mul, ← hm, IntKind.wrap_i64]; omega
    have HL : Hid (LBlk (wr.setCell ⟨gl, k, none⟩ (.slice (some ⟨g, m, none⟩) 0 W)) gl (rowsV g W n (k + 1))) := by
     have := hL.set k (.slice (some ⟨g, m, none⟩) 0 W)
     rw [hm, rowsV_set] at this
     rw [hm]
     exact this
    have HI : Hid (IBlk (wr.setCell ⟨gl, k, none⟩ (.slice (some ⟨g, m, none⟩) 0 W)) g (List.replicate N 0)) := hI.same (Below.heap_setCell _ _ _ _ (fun e => hgne e.symm))
    have HB : Hid (Below w.heap.size w (wr.setCell ⟨gl, k, none⟩ (.slice (some ⟨g, m, none⟩) 0 W))) := hbel.setCell (by show w.heap.size ≤ gl; have := HG.out; have := HGL.out; omega) _
    clear hL hI hm
    go_wp2
    go_roundw
    case rel => exact ⟨k + 1, by omega, by go_num, HL.out, HI.out, HB.out⟩
    case measure => simp [intOf]; omega
  · obtain rfl : k = n := by omega
    go_wp2
    go_ret
    exact ⟨g, gl, rfl, hL, hI, hbel, by have := HG.out; omega, by have := HG.out; have := HGL.out; omega, hgne⟩
end Go.Proofs.YtncnefpkfbngaaaGreatDoor

/- edit.Distance. -/
namespace Go.Proofs.YtncnefpkfbngaaaGreatDoor
open Go.RowKit Nums Ed
set_option maxRecDepth 100000

set_option maxHeartbeats 1000000 in
theorem Distance_any (a b : ByteArray) (w : World) (ht : Tabs w) (ha : a.size ≤ 9223372036854775807) (hb : b.size ≤ 9223372036854775807) :
 Calls Tryz.prog 38 #[.string a, .string b] w fun e w' => e = .returned (dsV (dsE a.data.toList b.data.toList)) ∧ Below w.heap.size w w' := by
 go_enter Tryz.func38, Tryz.ntmps38
 go_upto_region 2 with (go_at_call 65; refine (both_any a b _ ht ha hb).mono ?_; rintro e w1 ⟨vx, vy, f, rfl, hbo⟩)
 obtain ⟨hb1, ⟨rfl, hno⟩ | ⟨rfl, xs, ys, h1, h2, m1, m2⟩⟩ := hbo
 · have HF : Hid (dsE a.data.toList b.data.toList = none) := hno
   clear hno
   go_wp2
   go_ret2
   exact ⟨by rw [HF.out]; rfl, hb1⟩
 have HF : Hid (dsE a.data.toList b.data.toList = some (lv xs ys)) := dsE_some h1 h2
 have hxl := (rsE_out h1).2
 have hyl := (rsE_out h2).2
 clear h1 h2
 have HX : Hid (RunesAt w1.heap.size w1 vx xs) := m1.runesE
 have HY : Hid (RunesAt w1.heap.size w1 vy ys) := m2.runesE
 clear m1 m2
 obtain ⟨adx, capx, rfl⟩ := HX.out.form
 obtain ⟨ady, capy, rfl⟩ := HY.out.form
 obtain ⟨W, hW⟩ : ∃ W, W = ys.length + 1 := ⟨_, rfl⟩
 have hwW : IntKind.i64.wrap ((ys.length : Int) + 1) = (W : Int) := by rw [IntKind.wrap_i64]; omega
 have HW : Hid (W = ys.length + 1) := hW
 have hW1 : 1 ≤ W := by omega
 have hW2 : W ≤ 2000 := by omega
 clear hW
 go_upto_region 5 with (go_at_call 66; refine (rows_any 2 W _ (by omega) hW1 (by omega) (by omega)).mono ?_; rintro e w2 ⟨g, gl, rfl, hL, hI, hb2, hg1, hg2, hgne⟩)
 have hL0 : w2.drew.cell? ⟨gl, 0, none⟩ = some (.slice (some ⟨g, 0, none⟩) 0 W) := hL.cell (by rw [rowsV_get _ _ _ _ (by omega)]; simp)
 have hL1 : w2.drew.cell? ⟨gl, 1, none⟩ = some (.slice (some ⟨g, W, none⟩) 0 W) := hL.cell (by rw [rowsV_get _ _ _ _ (by omega)]; simp)
 have hS0 : w2.drew.cell? ⟨gl, 0, none⟩ = some (.slice (some ⟨g, 0, none⟩) 0 W) ∧ w2.drew.cell? ⟨gl, 1, none⟩ = some (.slice (some ⟨g, W, none⟩) 0 W) := ⟨hL0, hL1⟩
 have HST := start_any w2.drew g 0 W _ ys (show IBlk w2.drew g _ from hI) (by have := HW.out; omega) (by simp; have := HW.out; omega) (by omega)
 have hgll : gl < w2.drew.heap.size := hL.lt
 have hgl2 : g < w2.drew.heap.size := hI.lt
 refine region_at (S := fun W' => W'.cell? ⟨gl, 0, none⟩ = some (.slice (some ⟨g, 0, none⟩) 0 W) ∧ W'.cell? ⟨gl, 1, none⟩ = some (.slice (some ⟨g, W, none⟩) 0 W)) 11 rfl mixedP hS0 (fun _ => ?_)
 refine tk (i := 0) 27 rfl rfl (by kernel_rfl) (fun _ s => by (have h := id s; clear s; go_simp; first | done | exact rfl)) ?_
 simp only [sZa, sZb, sZc]
 refine tk (i := 1) 28 rfl rfl (by kernel_rfl) (fun _ s => by (have h := id s; clear s; go_simp; first | done | exact rfl)) ?_
 simp only [sZa, sZb, sZc]
 refine tk (i := 2) 29 rfl rfl (by kernel_rfl) (fun _ s => by (have h := id s; clear s; go_simp; first | done | exact rfl)) ?_
 simp only [sZa, sZb, sZc]
 refine tk (i := 3) 30 rfl rfl (by kernel_rfl) (fun _ s => by (have h := id s; clear s; go_simp; first | done | exact rfl)) ?_
 simp only [sZa, sZb, sZc]
 refine tk (i := 4) 31 rfl rfl (by kernel_rfl) (fun _ s => by (have h := id s; clear s; go_simp; first | done | exact rfl)) ?_
 simp only [sZa, sZb, sZc]
 refine tk (i := 6) 33 rfl rfl (by kernel_rfl) (fun _ s => by (have h := id s; clear s; go_simp; first | done | exact rfl)) ?_
 simp only [sZa, sZb, sZc]
 refine tk (i := 7) 34 rfl rfl (by kernel_rfl) (fun _ s => by (have h := id s; clear s; go_simp; first | done | exact rfl)) ?_
 simp only [sZa, sZb, sZc]
 refine tk (i := 8) 35 rfl rfl (by kernel_rfl) (fun _ s => by (have h := id s; clear s; go_simp; first | done | exact rfl)) ?_
 simp only [sZa, sZb, sZc]
 refine one_call (i := 5) (w0 := w2.drew) 32 67 #[.slice (some ⟨g, 0, none⟩) 0 W, .int .i64 ys.length] (by kernel_rfl) rfl rfl (by rfl) (by kernel_rfl) ?_
 refine HST.mono ?_
 rintro e w3 ⟨rfl, hI3, hb3⟩
 have hS3 : w3.cell? ⟨gl, 0, none⟩ = some (.slice (some ⟨g, 0, none⟩) 0 W) ∧ w3.cell? ⟨gl, 1, none⟩ = some (.slice (some ⟨g, W, none⟩) 0 W) := by
  have e := hb3.block gl hgll hgne
  exact ⟨(World.cell?_of_block (a := ⟨gl, 0, none⟩) e).trans hS0.1, (World.cell?_of_block (a := ⟨gl, 1, none⟩) e).trans hS0.2⟩
 refine ⟨_, rfl, hS3, fun _ => ?_⟩
 simp only [sZa, sZb, sZc]
 refine one_value (i := 9) (v := .slice (some ⟨g, 0, none⟩) (ys.length + 1) W) (w' := w3) 10 (by kernel_rfl) rfl rfl (by rfl) (by kernel_rfl) hS3 (fun _ => ?_)
 simp only [sZa, sZb, sZc]
 refine one_value (i := 10) (v := .slice (some ⟨g, W, none⟩) 0 W) (w' := w3) 11 (by kernel_rfl) rfl rfl (by rfl) (by kernel_rfl) hS3 (fun _ => ?_)
 simp only [sZa, sZb, sZc]
 refine wpAnyH_done (by kernel_rfl) ?_ _
 have hE3 : Below w1.heap.size w1 w3 := by
  have h := hb3.below (B := w1.heap.size) hg1 hb2.size
  exact ⟨h.os.trans hb2.os, h.tape.trans hb2.tape, h.output.trans hb2.output, Nat.le_trans hb2.size h.size, fun k hk => (h.block k hk).trans (hb2.block k hk)⟩
 have HI3 : Hid (IBlk w3 g (lay (List.replicate (2 * W) 0) 0 (dr [] ys))) := hI3
 clear hS0 hS3 hL0 hL1 HST hI3 hL hI hb3 hb2 hgll hgl2
 go_wp2
 go_loopw [10, 11, 38] (fun v u i wr => ∃ (k fa fb q : Nat) (cs : List Int), k ≤ xs.length ∧ i = .int .i64 k ∧ v = .slice (some ⟨g, fa, none⟩) (ys.length + 1) W ∧ u = .slice (some ⟨g, fb, none⟩) q W ∧ ((fa = 0 ∧ fb = W) ∨ (fa = W ∧ fb = 0)) ∧ cs.length = 2 * W ∧ IBlk wr g cs ∧ (∀ j, j ≤ ys.length → cs[fa + j]? = some (lv (xs.take k) (ys.take j) : Int)) ∧ Below w1.heap.size w1 wr) (fun _ _ i _ => xs.length - (intOf i).toNat)
 case atStart =>
  have hlen : 0 + (dr [] ys).length ≤ (List.replicate (2 * W) (0 : Int)).length := by rw [dr_len, List.length_replicate]; have := HW.out; omega
  refine ⟨0, 0, W, 0, _, Nat.zero_le _, rfl, rfl, rfl, .inl ⟨rfl, rfl⟩, ?_, HI3.out, fun j hj => ?_, hE3⟩
  · rw [lay_len hlen, List.length_replicate]
  · rw [lay_in hlen (by rw [dr_len]; omega), dr_get _ _ hj]; simp
 case round =>
  obtain ⟨k, fa, fb, q, cs, hk, rfl, rfl, rfl, hfab, hcl, hI, hA, hbel⟩ := hrel
  have HI : Hid (IBlk wr g cs) := hI
  have HA : Hid (∀ j, j ≤ ys.length → cs[fa + j]? = some (lv (xs.take k) (ys.take j) : Int)) := hA
  have HC : Hid (cs.length = 2 * W) := hcl
  have HAB : Hid ((fa = 0 ∧ fb = W) ∨ (fa = W ∧ fb = 0)) := hfab
  clear hI hA hcl hfab
  by_cases hlt : k < xs.length
  · obtain ⟨r, hr⟩ : ∃ r, xs[k]? = some r := ⟨_, List.getElem?_eq_getElem hlt⟩
    obtain ⟨gx, offx, rfl, hgx, hcx⟩ := (HX.out.below hbel).at hr
    have HT : Hid (xs.take (k + 1) = xs.take k ++ [r]) := by unfold Hid; rw [List.take_add_one, hr]; rfl
    clear hr
    go_wp2_with (go_at_call 68; refine (next_any wr g fb fa W W cs (xs.take k) ys r _ w1.heap.size HI.out (by have := HW.out; omega) (by have := HC.out; have := HW.out; rcases HAB.out with h | h <;> omega) HA.out (by have := HW.out; rcases HAB.out with h | h <;> omega) (HY.out.below hbel) hg1 (by omega) (by rw [List.length_take]; omega)).mono ?_; rintro e w4 ⟨rfl, hI4, hb4⟩)
    have hlen : Hid (fb + (dr (xs.take k ++ [r]) ys).length ≤ cs.length) := by unfold Hid; rw [dr_len, HC.out]; have := HW.out; rcases HAB.out with h | h <;> omega
    go_roundw
    case rel =>
     refine ⟨k + 1, fb, fa, _, _, by omega, by go_num, rfl, rfl, by rcases HAB.out with h | h; exact .inr ⟨h.2, h.1⟩; exact .inl ⟨h.2, h.1⟩, ?_, hI4, fun j hj => ?_, ?_⟩
     · rw [lay_len hlen.out]; exact HC.out
     · rw [lay_in hlen.out (by rw [dr_len]; omega), dr_get _ _ hj, HT.out]
     · exact hbel.trans (hb4.below hg1 hbel.size)
    case measure => simp [intOf]; omega
  · obtain rfl : k = xs.length := by omega
    have hc : wr.cell? ⟨g, fa + ys.length, none⟩ = some (.int .i64 (lv xs ys : Int)) := by
     have := HA.out ys.length (Nat.le_refl _)
     rw [List.take_of_length_le (Nat.le_refl _), List.take_of_length_le (Nat.le_refl _)] at this
     exact HI.out.cell this
    go_wp2
    go_ret2
    exact ⟨by rw [HF.out]; rfl, hb1.trans (hbel.mono hb1.size)⟩
end Go.Proofs.YtncnefpkfbngaaaGreatDoor

/- Cut: what the seat's translation lacks is left out. -/
/- edit.Within, the law's own near and alive. -/
namespace Go.Proofs.YtncnefpkfbngaaaGreatDoor
open Go.RowKit Nums Ed
set_option maxRecDepth 100000

def dN (o : Option Nat) : Int := match o with | some n => (n : Int) | none => 0
def dF (o : Option Nat) : Bool := match o with | some _ => true | none => false
/-- lv with fuel: it can be reckoned. -/
def lvF : Nat → List Int → List Int → Nat
 | 0, xs, ys => xs.length + ys.length
 | _ + 1, [], ys => ys.length
 | _ + 1, _ :: xs, [] => xs.length + 1
 | f + 1, x :: xs, y :: ys => min (lvF f xs ys + if x = y then 0 else 1) (min (lvF f xs (y :: ys) + 1) (lvF f (x :: xs) ys + 1))
theorem lvF_eq : ∀ (f : Nat) (xs ys : List Int), xs.length + ys.length ≤ f → lvF f xs ys = lv xs ys
 | 0, xs, ys, h => by
  have e1 : xs = [] := List.length_eq_zero_iff.1 (by omega)
  subst e1
  rw [lv_left]; simp [lvF]
 | _ + 1, [], ys, _ => by rw [lv_left]; rfl
 | _ + 1, _ :: xs, [], _ => by rw [lv_right]; rfl
 | f + 1, x :: xs, y :: ys, h => by
  simp only [List.length_cons] at h
  rw [lv_cons, lvF, lvF_eq f xs ys (by omega), lvF_eq f xs (y :: ys) (by simp only [List.length_cons]; omega), lvF_eq f (x :: xs) ys (by simp only [List.length_cons]; omega)]
/-- What a law keeps from call to call. -/
structure Acc (w0 w : World) : Prop where
 bel : Below w0.heap.size w0 w
 tabs : Tabs w
theorem Acc.refl {w : World} (ht : Tabs w) : Acc w w := ⟨Below.refl _ _, ht⟩
theorem Acc.step {w0 w w' : World} (h : Acc w0 w) (hb : Below w.heap.size w w') : Acc w0 w' := ⟨h.bel.trans (hb.mono h.bel.size), h.tabs.below hb⟩
end Go.Proofs.YtncnefpkfbngaaaGreatDoor
