/- (*builder).list. -/
import Derived.Test.YtllmdfkiogmofaaGreatDoorFBld
namespace Go.Proofs.YtllmdfkiogmofaaGreatDoor
open Go.RowKit Nums Fm
set_option maxRecDepth 100000

theorem AOwn.at {B : Nat} {w : World} {v : Value} {l : List Arc} (h : AOwn B w v l) (h0 : 0 < l.length) : ∃ g cap, v = .slice (some ⟨g, 0, none⟩) l.length cap ∧ g < w.heap.size ∧ l.length ≤ cap ∧ (∃ cur, w.heap[g]? = some (.cells cur 63 (0, 0))) ∧
    ∀ (i : Nat) (a : Arc), l[i]? = some a → w.cell? ⟨g, i * 3, none⟩ = some (.int .i32 a.label) ∧ w.cell? ⟨g, i * 3 + 1, none⟩ = some (.int .i64 a.out) ∧ w.cell? ⟨g, i * 3 + 2, none⟩ = some (.int .i64 a.to) := by
  obtain ⟨g, cap, rfl, hg, _, hc, hx⟩ := GOwn.cell h (by simpa using h0)
  refine ⟨g, cap, by simp, hg, by simpa using hc, (GOwn.block h rfl).2, fun i a hi => ?_⟩
  have e : (l.map cellsA)[i]? = some (cellsA a) := by rw [List.getElem?_map, hi]; rfl
  exact ⟨hx i 0 _ _ e rfl, hx i 1 _ _ e rfl, hx i 2 _ _ e rfl⟩
/-- What the walk looks at in a round. -/
structure SL (g g2 lb n : Nat) (a : Arc) (w : World) : Prop where
  c : w.cell? ⟨g, 2, none⟩ = some (.map (some g2))
  l0 : w.cell? ⟨lb, 0, none⟩ = some (.int .i64 n)
  l1 : w.cell? ⟨lb, 1, none⟩ = some (.int .i32 a.label)
  l2 : w.cell? ⟨lb, 2, none⟩ = some (.int .i64 a.out)
  l3 : w.cell? ⟨lb, 3, none⟩ = some (.int .i64 a.to)
theorem SL.facts {g g2 lb n : Nat} {a : Arc} {w : World} (h : SL g g2 lb n a w) : w.cell? ⟨g, 2, none⟩ = some (.map (some g2)) ∧ w.cell? ⟨lb, 0, none⟩ = some (.int .i64 n) ∧ w.cell? ⟨lb, 1, none⟩ = some (.int .i32 a.label) ∧ w.cell? ⟨lb, 2, none⟩ = some (.int .i64 a.out) ∧ w.cell? ⟨lb, 3, none⟩ = some (.int .i64 a.to) := ⟨h.c, h.l0, h.l1, h.l2, h.l3⟩
theorem mapTyL : Tryz.prog.underlying 90 = some (.map 174 3) := Tryz.underlying90
/-- The lists as they are in a round. -/
structure LRound (A : Nat → Prop) (E g g1 g2 : Nat) (vs : Value) (b : List St) (m1 : List (SK × Nat)) (m2 : List (LK × Nat)) (D : List (List Arc)) (w wr : World) (l : List Arc) (j n : Nat) : Prop where
  ex : ∃ m2' D', BAt A E wr g g1 g2 vs b m1 m2' D' ∧ m2'.length ≤ m2.length + j ∧ D <+: D' ∧ D'[n]? = some (l.take j)
  upd : Upd (fun k => k = g2) w wr

set_option maxHeartbeats 2000000 in
theorem list_any (A : Nat → Prop) (E g g1 g2 B : Nat) (vs : Value) (b : List St) (m1 : List (SK × Nat)) (m2 : List (LK × Nat)) (D : List (List Arc)) (w : World) (v : Value) (l : List Arc) (h : BAt A E w g g1 g2 vs b m1 m2 D) (hv : AOwn B w v l) (hok : ∀ a ∈ l, OkArc a) (hl : m2.length + l.length < 1099511627776) :
    Calls Tryz.prog 95 #[.pointer (some ⟨g, 0, none⟩), v] w fun e w' => ∃ (n : Nat) (m2' : List (LK × Nat)) (D' : List (List Arc)), e = .returned (.int .i64 n) ∧ BAt A E w' g g1 g2 vs b m1 m2' D' ∧ m2'.length ≤ m2.length + l.length ∧ D <+: D' ∧ D'[n]? = some l ∧ Upd (fun k => k = g2) w w' := by
  obtain ⟨ad, cap, rfl, hcap⟩ := GOwn.shape hv
  rw [List.length_map] at hv hcap ⊢
  have HV : Hid (AOwn B w (.slice ad l.length cap) l) := hv
  obtain ⟨n, hn⟩ : ∃ n, l.length = n := ⟨_, rfl⟩
  have HN : Hid (l.length = n) := hn
  rw [hn] at HV hl hcap
  have HS : Hid (LRound A E g g1 g2 vs b m1 m2 D w w l 0 0) := ⟨⟨m2, D, h, by omega, List.prefix_refl _, by rw [h.li.zero]; rfl⟩, Upd.refl _ _⟩
  have HOK : Hid (∀ a ∈ l, OkArc a) := hok
  obtain ⟨es, ck, hob⟩ := h.mp2.obj
  have HOB : Hid (w.heap[g2]? = some (.map es ck)) := hob
  have HG2 : Hid (g2 < w.heap.size) := h.lt.2.2
  rw [hn]
  clear h hv hn hok hob
  go_enter Tryz.func95, Tryz.ntmps95
  go_wp2
  go_loopg [5, 7, 8, 9, 10, 13] n (fun gm s5 _ _ _ _ s13 wr => ∃ (j q : Nat), s13 = .int .i64 j ∧ s5 = .int .i64 q ∧ j ≤ n ∧ n - j ≤ gm ∧ Hid (LRound A E g g1 g2 vs b m1 m2 D w wr l j q))
  case atStart => exact ⟨0, 0, rfl, rfl, Nat.zero_le _, by omega, HS⟩
  case round =>
    obtain ⟨j, q, rfl, rfl, hj, hgm, HR⟩ := hrel
    by_cases hlt : j < n
    · have hltz : (j : Int) < (n : Int) := by omega
      obtain ⟨a, ha⟩ : ∃ a, l[j]? = some a := ⟨l[j]'(by have := HN.out; omega), List.getElem?_eq_getElem _⟩
      obtain ⟨m2', D', hB, hm2, hD, hq⟩ := HR.out.ex
      have hVr : AOwn B wr (.slice ad n cap) l := AOwn.typed HV.out fun k cur hk => HR.out.upd.block k (Array.getElem?_eq_some_iff.1 hk).1 fun e => by subst e; rw [HOB.out] at hk; cases hk
      obtain ⟨ga, ca, ea, hga, _, _, hcell⟩ := hVr.at (by have := HN.out; omega)
      simp only [Value.slice.injEq] at ea
      obtain ⟨rfl, hnl, rfl⟩ := ea
      obtain ⟨c0, c1, c2⟩ := hcell j a ha
      obtain ⟨o1, o2, o3⟩ := HOK.out a (List.mem_of_getElem? ha)
      have hmn : m2'.length < 1099511627776 := by omega
      obtain ⟨lit, hlit⟩ := key_L (q, a) (by have h1 := hB.li.len; have h2 := (List.getElem?_eq_some_iff.1 hq).1; constructor <;> simp only <;> omega) o1 o2 o3
      have HLIT : Hid (keyOf Tryz.prog 174 (valL (q, a)) = some lit) := hlit
      have HBr : Hid (BAt A E wr g g1 g2 vs b m1 m2' D') := hB
      have HQ : Hid (D'[q]? = some (l.take j)) := hq
      have HM2 : Hid (m2'.length ≤ m2.length + j) := hm2
      have HDD : Hid (D <+: D') := hD
      have HTK : Hid (l.take (j + 1) = l.take j ++ [a]) := by show _ = _; rw [List.take_add_one, ha]; rfl
      clear hnl hcell ha hVr hB hq hm2 hD hlit o1 o2 o3
      go_upto_region 6 with fail
      obtain ⟨W, hW⟩ : ∃ W, W = (wr.alloc (.cells #[.int .i32 a.label, .int .i64 a.out, .int .i64 a.to] 63)).alloc (.cells #[.int .i64 q, .int .i32 a.label, .int .i64 a.out, .int .i64 a.to] 174) := ⟨_, rfl⟩
      obtain ⟨lb, hlb⟩ : ∃ lb, lb = wr.heap.size + 1 := ⟨_, rfl⟩
      rw [← hW, ← hlb]
      have HbW : Hid (Below wr.heap.size wr W) := by show Below _ _ _; rw [hW]; exact ((Below.refl _ wr).alloc (Nat.le_refl _) _).alloc (by simp) _
      have HBW : Hid (BAt A E W g g1 g2 vs b m1 m2' D') := HBr.out.below HbW.out
      have hSL : SL g g2 lb q a W := by
        have hn : (wr.alloc (.cells #[.int .i32 a.label, .int .i64 a.out, .int .i64 a.to] 63)).heap.size = lb := by rw [hlb]; simp
        have hh : W.heap[lb]? = some (.cells #[.int .i64 q, .int .i32 a.label, .int .i64 a.out, .int .i64 a.to] 174) := by rw [hW, ← hn]; exact alloc_newP _ _
        exact ⟨HBW.out.cells.2.2, by simp [World.cell?, hh], by simp [World.cell?, hh], by simp [World.cell?, hh], by simp [World.cell?, hh]⟩
      have HUW : Hid (Upd (fun k => k = g2) w W) := HR.out.upd.trans (G := fun k => k = g2) (Upd.of_below HbW.out) (fun _ _ e => e)
      have HSL : Hid (SL g g2 lb q a W) := hSL
      obtain ⟨s0, s1, s2, s3, s4⟩ := hSL.facts
      clear hSL hW c0 c1 c2 hlb
      by_cases hex : ∃ k, ((q, a), k) ∈ m2'
      · obtain ⟨k, hk⟩ := hex
        have hDk : D'[k]? = some (l.take (j + 1)) := by rw [HTK.out]; exact HBW.out.li.found hk HQ.out
        have hlook : ∀ nq, (Instr.lookup 90 (.map (some g2)) (.agg #[.int .i64 q, .int .i32 a.label, .int .i64 a.out, .int .i64 a.to]) true).run Tryz.prog (W.drewN nq) = .ok (.tuple #[.int .i64 k, .bool true]) (W.drewN nq) := fun nq =>
          (show KMapAt 174 valL (W.drewN nq) g2 m2' from HBW.out.mp2).look_old (x := (q, a)) keyedL mapTyL HLIT.out (fun y hy => valL_inj hy) hk (fun k' hk' => nodup_at HBW.out.li.nd (HBW.out.li.found hk' HQ.out) (by rw [← HTK.out]; exact hDk))
        have HN2 : Hid (∀ nq, LRound A E g g1 g2 vs b m1 m2 D w (W.drewN nq) l (j + 1) k) := fun nq => ⟨⟨m2', D', HBW.out.below (belowN (Below.refl _ W) nq), by have := HM2.out; omega, HDD.out, hDk⟩, HUW.out.trans (G := fun k => k = g2) (Upd.of_below (belowN (Below.refl _ W) nq)) (fun _ _ e => e)⟩
        clear hk hDk
        go_quiet (fail)
        go_wp2
        go_roundg (n - (j + 1))
        case measure => omega
        case rel => exact ⟨j + 1, k, by go_num, rfl, by omega, Nat.le_refl _, HN2.out _⟩
      · have hnew : ∀ k, ((q, a), k) ∉ m2' := fun k hk => hex ⟨k, hk⟩
        have HNEW : Hid (∀ k, ((q, a), k) ∉ m2') := hnew
        have hlook : ∀ nq, (Instr.lookup 90 (.map (some g2)) (.agg #[.int .i64 q, .int .i32 a.label, .int .i64 a.out, .int .i64 a.to]) true).run Tryz.prog (W.drewN nq) = .ok (.tuple #[.int .i64 0, .bool false]) (W.drewN nq) := fun nq =>
          (show KMapAt 174 valL (W.drewN nq) g2 m2' from HBW.out.mp2).look_new (x := (q, a)) keyedL mapTyL HLIT.out (fun y hy => valL_inj hy) hnew
        clear hnew hex
        go_quiet (fail)
        go_upto_region 8 with fail
        have hlen : ∀ ty, (Builtin.len_ #[90] ty #[.map (some g2)]).run Tryz.prog (W.drewN nq) = .ok (.int .i64 (m2'.length : Int)) (W.drewN nq) := fun ty =>
          (show KMapAt 174 valL (W.drewN nq) g2 m2' from HBW.out.mp2).len mapTyL ty
        obtain ⟨mn, hmne⟩ : ∃ mn, mn = m2'.length := ⟨_, rfl⟩
        have HMN : Hid (mn = m2'.length) := hmne
        rw [← hmne] at hlen hmn
        clear hmne hlook
        go_upto_region 9 with fail
        obtain ⟨W3, hupd, hK3, t1, t2, t3, t4, t5⟩ := (show KMapAt 174 valL (W.drewN nq).drew g2 m2' from HBW.out.mp2).store (x := (q, a)) keyedL mapTyL HLIT.out (fun y hy => valL_inj hy) HNEW.out (mn + 1)
        have HUPD : Hid ((Instr.mapUpdate 90 (.map (some g2)) (.agg #[.int .i64 q, .int .i32 a.label, .int .i64 a.out, .int .i64 a.to]) (.int .i64 ((mn : Int) + 1))).run Tryz.prog (W.drewN nq).drew = .ok () W3) := hupd
        obtain ⟨es3, ck3, hob3⟩ := HBW.out.mp2.obj
        have hnc : ∀ {k : Nat} {cur : Array Value} {T : TypeId} {z : Nat × Nat}, W.heap[k]? = some (.cells cur T z) → k ≠ g2 := fun hk e => by rw [e, hob3] at hk; cases hk
        have hlb2 : lb ≠ g2 := by
          intro e
          have := HSL.out.l0
          rw [e] at this
          simp [World.cell?, hob3] at this
        have hgg2 : g ≠ g2 := hnc HBW.out.blk
        have hS3 : SL g g2 lb q a W3 := by
          have e1 := t5 g hgg2
          have e2 := t5 lb hlb2
          exact ⟨(World.cell?_of_block (a := ⟨g, 2, none⟩) e1).trans HSL.out.c, (World.cell?_of_block (a := ⟨lb, 0, none⟩) e2).trans HSL.out.l0, (World.cell?_of_block (a := ⟨lb, 1, none⟩) e2).trans HSL.out.l1, (World.cell?_of_block (a := ⟨lb, 2, none⟩) e2).trans HSL.out.l2, (World.cell?_of_block (a := ⟨lb, 3, none⟩) e2).trans HSL.out.l3⟩
        have HNX : Hid (LRound A E g g1 g2 vs b m1 m2 D w W3 l (j + 1) (mn + 1)) := by
          show LRound _ _ _ _ _ _ _ _ _ _ _ _ _ _ _
          obtain ⟨l1, l2⟩ := HBW.out.li.add HNEW.out HQ.out
          rw [HMN.out] at hK3 ⊢
          rw [← HTK.out] at l1 l2
          exact ⟨⟨_, _, HBW.out.lists (fun k _ hk => t5 k hk) hK3 l1 (List.prefix_append _ _), by have := HM2.out; simp; omega, HDD.out.trans (List.prefix_append _ _), l2⟩, HUW.out.trans (G := fun k => k = g2) ⟨t1, t2, t3, Nat.le_of_eq t4.symm, fun k _ hk => t5 k hk⟩ (fun _ _ e => e)⟩
        have hS0 : SL g g2 lb q a (W.drewN nq).drew := ⟨HSL.out.c, HSL.out.l0, HSL.out.l1, HSL.out.l2, HSL.out.l3⟩
        clear hupd hK3 t1 t2 t3 t4 t5 hob3 hnc hlb2 hgg2 s0 s1 s2 s3 s4 hlen
        refine region_at (S := SL g g2 lb q a) 7 rfl mixedP hS0 (fun hHeld => ?_)
        refine tk (i := 0) 37 rfl rfl (by kernel_rfl) (fun _ _ _ h => h) (by rfl) (fun _ s => by (have h := SL.facts s; clear s; go_simp; first | done | exact rfl)) (by assumption) ?_
        simp only [sZa, sZb, sZc]
        refine tk (i := 1) 38 rfl rfl (by kernel_rfl) (fun _ _ _ h => h) (by rfl) (fun _ s => by (have h := SL.facts s; clear s; go_simp; first | done | exact rfl)) (by assumption) ?_
        simp only [sZa, sZb, sZc]
        refine tk (i := 2) 39 rfl rfl (by kernel_rfl) (fun _ _ _ h => h) (by rfl) (fun _ s => by (have h := SL.facts s; clear s; go_simp; first | done | exact rfl)) (by assumption) ?_
        simp only [sZa, sZb, sZc]
        refine tk (i := 3) 40 rfl rfl (by kernel_rfl) (fun _ _ _ h => h) (by rfl) (fun _ s => by (have h := SL.facts s; clear s; go_simp; first | done | exact rfl)) (by assumption) ?_
        simp only [sZa, sZb, sZc]
        refine tk (i := 4) 41 rfl rfl (by kernel_rfl) (fun _ _ _ h => h) (by rfl) (fun _ s => by (have h := SL.facts s; clear s; go_simp; first | done | exact rfl)) (by assumption) ?_
        simp only [sZa, sZb, sZc]
        refine tk (i := 5) 42 rfl rfl (by kernel_rfl) (fun _ _ _ h => h) (by rfl) (fun _ s => by (have h := SL.facts s; clear s; go_simp; first | done | exact rfl)) (by assumption) ?_
        simp only [sZa, sZb, sZc]
        refine one_skip (i := 6) (w' := W3) (by kernel_rfl) rfl rfl (by rfl) ((exec_upd _ _ _ _ _ _ _ _ _ _ _).trans (congrArg (fun r => Result.andThen r _) HUPD.out)) hS3 (fun _ => ?_)
        refine wpAnyH_done (by kernel_rfl) ?_ _
        go_wp2
        go_roundg (n - (j + 1))
        case measure => omega
        case rel => exact ⟨j + 1, mn + 1, by go_num, by go_num, by omega, Nat.le_refl _, HNX⟩
    · have hltz : ¬ (j : Int) < (n : Int) := by omega
      obtain ⟨m2', D', hB, hm2, hD, hq⟩ := HR.out.ex
      have HF : Hid (BAt A E wr g g1 g2 vs b m1 m2' D' ∧ m2'.length ≤ m2.length + n ∧ D <+: D' ∧ D'[q]? = some l ∧ Upd (fun k => k = g2) w wr) := ⟨hB, by omega, hD, by rw [hq, List.take_of_length_le (by have := HN.out; omega)], HR.out.upd⟩
      clear hB hm2 hD hq
      go_wp2
      go_ret
      exact ⟨q, rfl, m2', D', HF.out⟩
end Go.Proofs.YtllmdfkiogmofaaGreatDoor
