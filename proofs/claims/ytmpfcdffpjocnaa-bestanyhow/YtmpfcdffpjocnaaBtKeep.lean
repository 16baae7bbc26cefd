/- A keeper in memory; its pile's Push and Pop. -/
import Derived.Test.YtmpfcdffpjocnaaBtPile
namespace Go.Proofs.Ytmpfcdffpjocnaa
open Go.RowKit Go.Lib Nums Pm
set_option maxRecDepth 100000
namespace Bt
/-- A keeper: its block p, the room, the pile v with the matches h; all of it lies from B on. -/
structure KAt (B : Nat) (w : World) (p : Nat) (room : Int) (v : Value) (h : List Mt) : Prop where
  low : B ≤ p
  lt : p < w.heap.size
  c0 : w.cell? ⟨p, 0, none⟩ = some (.int .i64 room)
  c1 : w.cell? ⟨p, 1, none⟩ = some v
  f1 : w.frozen? ⟨p, 1, none⟩ = false
  row : GOwn 23 3 B w v (h.map cellsM)
  ap : v.ownBlock ≠ some p
/-- What a keeper's calls may change. -/
def KF (p : Nat) (v : Value) (k : Nat) : Prop := k = p ∨ v.ownBlock = some k
theorem KAt.form {B : Nat} {w : World} {p : Nat} {room : Int} {v : Value} {h : List Mt} (K : KAt B w p room v h) : ∃ ad cap, v = .slice ad h.length cap := by
  obtain ⟨ad, cap, e, _⟩ := K.row.shape
  exact ⟨ad, cap, by rw [e, List.length_map]⟩
theorem KAt.upd {B : Nat} {w w' : World} {p : Nat} {room : Int} {v : Value} {h : List Mt} {F : Nat → Prop} (K : KAt B w p room v h) (u : Upd F w w') (hF : ∀ k, KF p v k → ¬ F k) : KAt B w' p room v h := by
  have hp := u.block p K.lt (hF p (.inl rfl))
  exact ⟨K.low, Nat.lt_of_lt_of_le K.lt u.size, (World.cell?_of_block (w := w) hp).trans K.c0, (World.cell?_of_block (w := w) hp).trans K.c1, (World.frozen?_of_block (w := w) hp).trans K.f1, GOwn.upd K.row u (fun g hg => hF g (.inr hg)), K.ap⟩
theorem KAt.below {B : Nat} {w w' : World} {p : Nat} {room : Int} {v : Value} {h : List Mt} (K : KAt B w p room v h) (hb : Below w.heap.size w w') : KAt B w' p room v h :=
  K.upd (F := fun _ => False) (upd_of_below hb) (fun _ _ h => h)
theorem KF.low {B : Nat} {w : World} {p : Nat} {room : Int} {v : Value} {h : List Mt} (K : KAt B w p room v h) {k : Nat} (hk : KF p v k) : B ≤ k := by
  rcases hk with rfl | hk
  · exact K.low
  · exact (K.row.block hk).1
/-- Another pile is laid into the keeper. -/
theorem KAt.lay {B : Nat} {w w' : World} {p : Nat} {room : Int} {v v' : Value} {h h' : List Mt} {F : Nat → Prop} (K : KAt B w p room v h) (u : Upd F w w') (hF : ¬ F p) (ho : GOwn 23 3 B w' v' (h'.map cellsM)) (ha : v'.ownBlock ≠ some p) : KAt B (w'.setCell ⟨p, 1, none⟩ v') p room v' h' := by
  have hp := u.block p K.lt hF
  have hlt := Nat.lt_of_lt_of_le K.lt u.size
  have c0 := (World.cell?_of_block (w := w) (w' := w') (a := ⟨p, 0, none⟩) hp).trans K.c0
  have c1 := (World.cell?_of_block (w := w) (w' := w') (a := ⟨p, 1, none⟩) hp).trans K.c1
  have f1 := (World.frozen?_of_block (w := w) (w' := w') (a := ⟨p, 1, none⟩) hp).trans K.f1
  refine ⟨K.low, by simpa [World.setCell] using hlt, ?_, ?_, ?_, ?_, ha⟩
  · have := World.cell?_setCells_out p [v'] 1 w' ⟨p, 0, none⟩ (fun _ _ => .inl (by simp))
    exact this.trans c0
  · exact World.cell?_setCell_same _ _ _ c1
  · exact (World.frozen?_setCells p [v'] 1 w' ⟨p, 1, none⟩).trans f1
  · exact ho.same fun g hg => Below.heap_setCell _ _ _ _ (fun e => ha (by rw [show p = g from e.symm]; exact hg))
theorem GOwn.cut {T : TypeId} {k B g n cap : Nat} {w : World} {xss : List (List Value)} (h : GOwn T k B w (.slice (some ⟨g, 0, none⟩) n cap) xss) (m : Nat) (hn : n = xss.length) (hm : m ≤ n) : GOwn T k B w (.slice (some ⟨g, 0, none⟩) m cap) (xss.take m) := by
  subst hn
  have hfl : ∀ (xs : List (List Value)) (m : Nat), (∀ y ∈ xs, y.length = k) → (xs.take m).flatten = xs.flatten.take (m * k) := by
    intro xs
    induction xs with
    | nil => intro m _; simp
    | cons y r ih =>
      intro m hk
      cases m with
      | zero => simp
      | succ m =>
        rw [List.take_succ_cons, List.flatten_cons, List.flatten_cons, ih m (fun z hz => hk z (by simp [hz])), List.take_append, hk y (by simp), List.take_of_length_le (l := y) (by rw [hk y (by simp), Nat.add_mul]; omega), show (m + 1) * k - k = m * k by rw [Nat.add_mul]; omega]
  obtain ⟨h0, hl, ⟨e, _⟩ | ⟨g', cap', cur, e, h1, hg, h2, h3, h4, h5⟩⟩ := h
  · cases e
  · simp only [Value.slice.injEq, Option.some.injEq, Addr.mk.injEq, and_true, true_and] at e
    obtain ⟨rfl, rfl⟩ := e
    have hlen : (xss.take m).length = m := by rw [List.length_take]; omega
    refine ⟨fun y hy => h0 y (List.mem_of_mem_take hy), ?_, .inr ⟨g, cap, cur, by rw [hlen], h1, hg, by rw [hlen]; omega, h3, h4, ?_⟩⟩
    · rw [hfl xss m (fun y hy => (h0 y hy).1), List.length_take, hl, hlen]
      exact Nat.min_eq_left (Nat.mul_le_mul_right _ hm)
    · rw [hlen, hfl xss m (fun y hy => (h0 y hy).1), ← h5, List.take_take, Nat.min_eq_left (Nat.mul_le_mul_right _ hm)]
theorem exec_appM {P : Program} {ρ : Operand → Value} {x y : Operand} {t : TypeId} {dst : Option Tmp} {ty : TypeId} {pos : String} {af : Array Edge} {g : Option (Nat × Bool)} {w w' : World} {v : Value} (h : (Builtin.append_ #[t, t] ty #[ρ x, ρ y]).run P w = .ok v w') :
    (execOp ρ ⟨dst, .call { callee := .builtin .append, args := #[x, y], argTypes := #[t, t] }, ty, pos, af, g⟩).run P w = .ok (.value v) w' := by
  unfold execOp
  simp only [resolve, invoke, builtin, Sem.run_bind, Sem.run_pure, Result.andThen_ok, List.map_toArray, List.map_cons, List.map_nil, h]
theorem run_assertM (w : World) (x : Value) (t : TypeId) : (Instr.typeAssert (.iface 23 x) t 23 false).run Try.prog w = .ok x w := by kernel_rfl
theorem alloc_newM (w : World) (o : Obj) : (w.alloc o).heap[w.heap.size]? = some o := by show (w.heap.push o)[w.heap.size]? = _; simp
set_option maxHeartbeats 1000000 in
theorem Ppush_any (B : Nat) (w : World) (p : Nat) (room : Int) (v : Value) (h : List Mt) (m : Mt) (K : KAt B w p room v h) (hl : h.length < 1099511627776) :
    Calls Try.prog 48 #[.pointer (some ⟨p, 1, none⟩), .iface 23 (valM m)] w fun e w' => e = .returned (.tuple #[]) ∧ ∃ v', KAt B w' p room v' (h ++ [m]) ∧ Upd (KF p v) w w' ∧ (v'.ownBlock = v.ownBlock ∨ ∃ g, v'.ownBlock = some g ∧ w.heap.size ≤ g) := by
  obtain ⟨ad, cap, rfl⟩ := K.form
  obtain ⟨V3, hV3⟩ : ∃ V3, w.drew = V3 := ⟨_, rfl⟩
  have hb3 : Below w.heap.size w V3 := by rw [← hV3]; exact (Below.refl _ w).drew
  have hz3 : V3.heap.size = w.heap.size := by rw [← hV3]; rfl
  obtain ⟨V4, hV4⟩ : ∃ V4, V3.alloc (.cells #[.string m.1, .int .i64 m.2.1, .int .i64 m.2.2] 23) = V4 := ⟨_, rfl⟩
  have hb34 : Below V3.heap.size V3 V4 := by rw [← hV4]; exact (Below.refl _ V3).alloc (Nat.le_refl _) _
  have hb4 : Below w.heap.size w V4 := hb3.trans (hb34.mono hb3.size)
  have hn4 : V4.heap[V3.heap.size]? = some (.cells #[.string m.1, .int .i64 m.2.1, .int .i64 m.2.2] 23) := by rw [← hV4]; exact alloc_newM _ _
  have hBV : B ≤ V4.heap.size := by have h1 := K.low; have h2 := K.lt; have h3 := hb4.size; omega
  obtain ⟨v', W', hap, ho', hgr, hob⟩ := gappend_run rtyMp (GOwn.below K.row hb4) hBV (cellsM_ok m) (nb := V3.heap.size) (fun i u hi => by simp only [World.cell?, hn4]; simpa [cellsM] using hi) (by rw [List.length_map]; omega) 42 1
  obtain ⟨vd2, vn2, vc2, hvv2⟩ : ∃ vd vn vc, v' = .slice vd vn vc := by
    obtain ⟨ad, cap, e, _⟩ := GOwn.shape ho'
    exact ⟨_, _, _, e⟩
  subst hvv2
  have K4 := K.below hb4
  have hu7 : Upd (fun k => (Value.slice ad h.length cap).ownBlock = some k) w W' := (upd_of_below hb4).grown hgr (fun _ _ e => e)
  have hap7 : (Value.slice vd2 vn2 vc2).ownBlock ≠ some p := by
    rcases hob with e | ⟨g, e, hg⟩
    · rw [e]; exact K.ap
    · rw [e]; intro e2; cases e2; have := K4.lt; omega
  have HK : KAt B (W'.setCell ⟨p, 1, none⟩ (.slice vd2 vn2 vc2)) p room (.slice vd2 vn2 vc2) (h ++ [m]) := K.lay hu7 K.ap (by rw [List.map_append]; exact ho') hap7
  have HU : Upd (KF p (.slice ad h.length cap)) w (W'.setCell ⟨p, 1, none⟩ (.slice vd2 vn2 vc2)) := (hu7.mono (fun k hk => .inr hk)).setCell (a := ⟨p, 1, none⟩) (.inl rfl) _
  have HO : Hid ((Value.slice vd2 vn2 vc2).ownBlock = (Value.slice ad h.length cap).ownBlock ∨ ∃ g, (Value.slice vd2 vn2 vc2).ownBlock = some g ∧ w.heap.size ≤ g) := by
    rcases hob with e | ⟨g, e, hg⟩
    · exact .inl e
    · exact .inr ⟨g, e, Nat.le_trans hb4.size hg⟩
  have hS3 : V3.cell? ⟨p, 1, none⟩ = some (.slice ad h.length cap) := (K.below hb3).c1
  have hS4 : V4.cell? ⟨p, 1, none⟩ = some (.slice ad h.length cap) := K4.c1
  have K5 : W'.cell? ⟨p, 1, none⟩ = some (.slice ad h.length cap) := by rw [World.cell?_of_block (w := w) (hu7.block p K.lt K.ap)]; exact K.c1
  have F5 : W'.frozen? ⟨p, 1, none⟩ = false := by rw [World.frozen?_of_block (w := w) (hu7.block p K.lt K.ap)]; exact K.f1
  obtain ⟨W8, hW8⟩ : ∃ W8, W'.setCell ⟨p, 1, none⟩ (.slice vd2 vn2 vc2) = W8 := ⟨_, rfl⟩
  rw [hW8] at HK HU
  have HAP : Hid ((Builtin.append_ #[42, 42] 42 #[.slice ad h.length cap, .slice (some ⟨V3.heap.size, 0, none⟩) 1 1]).run Try.prog V4 = .ok (.slice vd2 vn2 vc2) W') := hap
  have HWS : Hid (W'.setCell ⟨p, 1, none⟩ (.slice vd2 vn2 vc2) = W8) := hW8
  have HV4E : Hid (V3.alloc (.cells #[.string m.1, .int .i64 m.2.1, .int .i64 m.2.2] 23) = V4) := hV4
  have HKK : Hid (KAt B W8 p room (.slice vd2 vn2 vc2) (h ++ [m])) := HK
  have HUU : Hid (Upd (KF p (.slice ad h.length cap)) w W8) := HU
  have hta := run_assertM
  generalize h.length = n at *
  clear hap ho' hgr hob hb3 hb34 hb4 hn4 hV4 hW8 K K4 hu7 hap7 HK HU hz3 hBV
  unfold valM
  go_enter Try.func48, Try.ntmps48
  go_wp2_with fail
  refine region_atE (S := fun W => W.cell? ⟨p, 1, none⟩ = some (.slice ad n cap)) 10 9 rfl mixedB ?_
  rw [hV3]
  clear hV3
  refine take_atE (i := 0) 4 rfl rfl (by kernel_rfl) (by kernel_rfl) (by kernel_rfl) (by kernel_rfl) (fun _ _ _ h => h) (by rfl) (fun w hSw => by (have hSw2 := id hSw; clear hSw; go_simp; first | done | exact rfl)) (by assumption) ?_
  simp only [List.setIfInBounds_toArray, List.set_cons_zero, List.set_cons_succ]
  refine take_atE (i := 1) 5 rfl rfl (by kernel_rfl) (by kernel_rfl) (by kernel_rfl) (by kernel_rfl) (fun _ _ _ h => h) (by rfl) (fun w hSw => by (have hSw2 := id hSw; clear hSw; go_simp; first | done | exact rfl)) (by assumption) ?_
  simp only [List.setIfInBounds_toArray, List.set_cons_zero, List.set_cons_succ]
  refine take_atE (i := 2) 6 rfl rfl (by kernel_rfl) (by kernel_rfl) (by kernel_rfl) (by kernel_rfl) (fun _ _ _ h => h) (by rfl) (fun w hSw => by (have hSw2 := id hSw; clear hSw; go_simp; first | done | exact rfl)) (by assumption) ?_
  simp only [List.setIfInBounds_toArray, List.set_cons_zero, List.set_cons_succ]
  refine take_atE (i := 3) 7 rfl rfl (by kernel_rfl) (by kernel_rfl) (by kernel_rfl) (by kernel_rfl) (fun _ _ _ h => h) (by rfl) (fun w hSw => by (have hSw2 := id hSw; clear hSw; go_simp; first | done | exact rfl)) (by assumption) ?_
  simp only [List.setIfInBounds_toArray, List.set_cons_zero, List.set_cons_succ]
  refine take_atE (i := 4) 8 rfl rfl (by kernel_rfl) (by kernel_rfl) (by kernel_rfl) (by kernel_rfl) (fun _ _ _ h => h) (by rfl) (fun w hSw => by (have hSw2 := id hSw; clear hSw; go_simp; first | done | exact rfl)) (by assumption) ?_
  simp only [List.setIfInBounds_toArray, List.set_cons_zero, List.set_cons_succ]
  refine take_atE (i := 5) 9 rfl rfl (by kernel_rfl) (by kernel_rfl) (by kernel_rfl) (by kernel_rfl) (fun _ _ _ h => h) (by rfl) (fun w hSw => by (have hSw2 := id hSw; clear hSw; go_simp; first | done | exact rfl)) (by assumption) ?_
  simp only [List.setIfInBounds_toArray, List.set_cons_zero, List.set_cons_succ]
  refine one_valueE (i := 6) (v := .slice (some ⟨V3.heap.size, 0, none⟩) 1 1) (w' := V4) 10 (by kernel_rfl) rfl rfl (by rfl) (by rw [← HV4E.out]; go_simp; first | done | exact rfl) hS4 ?_
  simp only [List.setIfInBounds_toArray, List.set_cons_zero, List.set_cons_succ]
  refine one_valueE (i := 7) (v := .slice vd2 vn2 vc2) (w' := W') 11 (by kernel_rfl) rfl rfl (by rfl) (exec_appM HAP.out) K5 ?_
  simp only [List.setIfInBounds_toArray, List.set_cons_zero, List.set_cons_succ]
  refine one_valueE (i := 8) (v := .pointer (some ⟨p, 1, none⟩)) (w' := W') 12 (by kernel_rfl) rfl rfl (by rfl) (by kernel_rfl) K5 ?_
  simp only [List.setIfInBounds_toArray, List.set_cons_zero, List.set_cons_succ]
  refine last_skipE (w' := W8) (by kernel_rfl) rfl rfl (by rfl) (by rw [← HWS.out]; go_simp; first | done | exact rfl) (by kernel_rfl) ?_
  go_wp2
  go_returns
  exact ⟨rfl, _, HKK.out, HUU.out, HO.out⟩
attribute [local go_sem ↓] exec_load_M exec_store_M
set_option maxHeartbeats 1000000 in
theorem Ppop_any (B : Nat) (w : World) (p : Nat) (room : Int) (v : Value) (h : List Mt) (n : Nat) (K : KAt B w p room v h) (hn : h.length = n + 1) (hl : h.length < 1099511627776) :
    Calls Try.prog 47 #[.pointer (some ⟨p, 1, none⟩)] w fun e w' => e = .returned (.iface 23 (valM (el h n))) ∧ ∃ v', KAt B w' p room v' (h.take n) ∧ Upd (KF p v) w w' ∧ v'.ownBlock = v.ownBlock := by
  obtain ⟨g, cap, rfl, hg, _, hcap, hc⟩ := GOwn.mt K.row (by omega)
  obtain ⟨n0, n1, n2, f0, f1, f2⟩ := hc n (by omega)
  have hgp : g ≠ p := fun e => K.ap (by rw [e]; rfl)
  obtain ⟨V1, hV1⟩ : ∃ V1, w.alloc (.cells #[.string ⟨#[]⟩, .int .i64 0, .int .i64 0] 23) = V1 := ⟨_, rfl⟩
  obtain ⟨mb, hmb⟩ : ∃ mb, w.heap.size = mb := ⟨_, rfl⟩
  have hb1 : Below w.heap.size w V1 := by rw [← hV1]; exact (Below.refl _ w).alloc (Nat.le_refl _) _
  have hn1 : V1.heap[mb]? = some (.cells #[.string ⟨#[]⟩, .int .i64 0, .int .i64 0] 23) := by rw [← hV1, ← hmb]; exact alloc_newM _ _
  obtain ⟨V2, hV2⟩ : ∃ V2, V1.setCells mb 0 (cellsM (el h n)) = V2 := ⟨_, rfl⟩
  have s1 : storeM Try.prog (.pointer (some ⟨mb, 0, none⟩)) (valM (el h n)) V1 = .ok () V2 := by
    rw [← hV2]
    exact storeM_at (u := .string ⟨#[]⟩) (v := .int .i64 0) (z := .int .i64 0) (by simp [World.cell?, hn1]) (by simp [World.cell?, hn1]) (by simp [World.cell?, hn1]) (by simp [World.frozen?, hn1]) (by simp [World.frozen?, hn1]) (by simp [World.frozen?, hn1])
  have u2 : Upd (fun k => k = mb) w V2 := by rw [← hV2]; exact Upd.setCells (F := fun k => k = mb) rfl _ _ (upd_of_below hb1)
  have hpm : ¬ p = mb := by have := K.lt; omega
  have K2 : KAt B V2 p room (.slice (some ⟨g, 0, none⟩) h.length cap) h := K.upd u2 (fun k hk e => by
    rcases hk with e2 | e2
    · omega
    · simp only [Value.ownBlock, Option.some.injEq] at e2; omega)
  obtain ⟨V3, hV3⟩ : ∃ V3, V2.setCells g (n * 3) (cellsM (⟨#[]⟩, 0, 0)) = V3 := ⟨_, rfl⟩
  have s2 : storeM Try.prog (.pointer (some ⟨g, n * 3, none⟩)) (.agg #[.string ⟨#[]⟩, .int .i64 0, .int .i64 0]) V2 = .ok () V3 := by
    rw [← hV3]
    have e2 := fun j => World.cell?_of_block (w := w) (w' := V2) (a := ⟨g, j, none⟩) (u2.block g hg (by show ¬ g = mb; omega))
    have e3 := fun j => World.frozen?_of_block (w := w) (w' := V2) (a := ⟨g, j, none⟩) (u2.block g hg (by show ¬ g = mb; omega))
    exact storeM_at (x := (⟨#[]⟩, 0, 0)) ((e2 _).trans n0) ((e2 _).trans n1) ((e2 _).trans n2) ((e3 _).trans f0) ((e3 _).trans f1) ((e3 _).trans f2)
  have u3 : Upd (fun k => k = g) V2 V3 := by rw [← hV3]; exact Upd.setCells (F := fun k => k = g) rfl _ _ (Upd.refl _ _)
  have G3 : GOwn 23 3 B V3 (.slice (some ⟨g, 0, none⟩) n cap) ((h.take n).map cellsM) := by
    have G2 := GOwn.put K2.row (by simp) n (by simp; omega) (cellsM (⟨#[]⟩, 0, 0)) (cellsM_ok _)
    rw [hV3] at G2
    have := GOwn.cut G2 n (by simp) (by omega)
    rw [List.take_set_of_le (Nat.le_refl _), ← List.map_take] at this
    exact this
  have c3 : V3.cell? ⟨p, 1, none⟩ = some (.slice (some ⟨g, 0, none⟩) h.length cap) := (World.cell?_of_block (w := V2) (a := ⟨p, 1, none⟩) (u3.block p K2.lt (by show ¬ p = g; omega))).trans K2.c1
  have f3 : V3.frozen? ⟨p, 1, none⟩ = false := (World.frozen?_of_block (w := V2) (a := ⟨p, 1, none⟩) (u3.block p K2.lt (by show ¬ p = g; omega))).trans K2.f1
  have K4 : KAt B (V3.setCell ⟨p, 1, none⟩ (.slice (some ⟨g, 0, none⟩) n cap)) p room (.slice (some ⟨g, 0, none⟩) n cap) (h.take n) := K2.lay u3 (by show ¬ p = g; omega) G3 (by simp only [Value.ownBlock, ne_eq, Option.some.injEq]; exact hgp)
  have u4 : Upd (KF p (.slice (some ⟨g, 0, none⟩) h.length cap)) w (V3.setCell ⟨p, 1, none⟩ (.slice (some ⟨g, 0, none⟩) n cap)) := by
    refine Upd.setCell (F := KF p (.slice (some ⟨g, 0, none⟩) h.length cap)) (a := ⟨p, 1, none⟩) ?_ (.inl rfl) _
    have u5 : Upd (KF p (.slice (some ⟨g, 0, none⟩) h.length cap)) w V2 := ⟨u2.os, u2.tape, u2.output, u2.size, fun k hk _ => u2.block k hk (by show ¬ k = mb; omega)⟩
    exact u5.trans u3 (fun k _ e => .inr (by rw [show k = g from e]; rfl))
  obtain ⟨V4, hV4⟩ : ∃ V4, V3.setCell ⟨p, 1, none⟩ (.slice (some ⟨g, 0, none⟩) n cap) = V4 := ⟨_, rfl⟩
  rw [hV4] at K4 u4
  have l4 : loadM Try.prog (.pointer (some ⟨mb, 0, none⟩)) V4 = .ok (valM (el h n)) V4 := by
    have hv2 : V2.heap.size = V1.heap.size := by (rw [← hV2]; simp [cellsM, World.setCells, World.setCell])
    have hm1 : mb < V1.heap.size := (Array.getElem?_eq_some_iff.1 hn1).1
    have hm2 : mb < V2.heap.size := by omega
    have hb4 : V4.heap[mb]? = V2.heap[mb]? := by
      rw [← hV4, Below.heap_setCell _ _ _ _ (by show mb ≠ p; omega), u3.block mb hm2 (by show ¬ mb = g; omega)]
    have e : ∀ j, V4.cell? ⟨mb, j, none⟩ = V2.cell? ⟨mb, j, none⟩ := fun j => World.cell?_of_block (w := V2) (a := ⟨mb, j, none⟩) hb4
    have I := World.cell?_setCells_in mb (cellsM (el h n)) 0 V1 (fun j hj => by
      have : j = 0 ∨ j = 1 ∨ j = 2 := by simp [cellsM] at hj; omega
      rcases this with rfl | rfl | rfl <;> simp [World.cell?, hn1])
    rw [hV2] at I
    exact loadM_at ((e 0).trans (I 0 (by simp [cellsM]))) ((e 1).trans (I 1 (by simp [cellsM]))) ((e 2).trans (I 2 (by simp [cellsM])))
  have l0 : loadM Try.prog (.pointer (some ⟨g, n * 3, none⟩)) w = .ok (valM (el h n)) w := loadM_at n0 n1 n2
  have HK : Hid (KAt B V4 p room (.slice (some ⟨g, 0, none⟩) n cap) (h.take n)) := K4
  have HU : Hid (Upd (KF p (.slice (some ⟨g, 0, none⟩) h.length cap)) w V4) := u4
  have c0 := K.c1
  have c2 := K2.c1
  have hw : IntKind.i64.wrap ((h.length : Int) - 1) = (n : Int) := by rw [IntKind.wrap_i64]; omega
  have hnl : (n : Int) < (h.length : Int) := by omega
  have hnc : (n : Int) ≤ (cap : Int) := by omega
  have hc0 : ¬ cap = 0 := by omega
  generalize el h n = x at *
  generalize h.take n = ht at *
  generalize h.length = ln at *
  clear K K2 K4 u2 u3 u4 G3 hc n0 n1 n2 f0 f1 f2 hb1 hn1 hV2 hV3 hn hcap hgp hpm
  go_enter Try.func47, Try.ntmps47
  go_wp2
  go_ret
  exact ⟨rfl, _, HK.out, HU.out, rfl⟩
end Bt
end Go.Proofs.Ytmpfcdffpjocnaa
