/- Texts that were written apart, joined. -/
import Derived.Test.YthecngkdmnadoaaGreatG44
import Derived.Lib.SlBytesConst
import Derived.Test.YthecngkdmnadoaaGreatG27
/- alive: the walk. -/
namespace Go.Proofs.YthecngkdmnadoaaGreat
open Go.RowKit
set_option maxRecDepth 100000

/-- A log that was made since. -/
structure Since (W0 : World) (N : Nat) (w : World) (b p : Nat) (g : LG) (v : WV) (fp : List Nat) (s : List Sv) : Prop where
  log : LogAt N w b g v fp s
  new : ∀ k ∈ logF b v fp, W0.heap.size ≤ k
  below : Below W0.heap.size W0 w
  p : v.p = p
theorem Since.says {W0 : World} {N M b p : Nat} {w w' : World} {g : LG} {v : WV} {fp : List Nat} {s : List Sv} {r : Int × LG} {e : Ending} (h : Since W0 N w b p g v fp s) (hs : LogSays M b r v fp w e w') : e = .returned (.int .i64 r.1) ∧ ∃ v' fp' s', Since W0 M w' b p r.2 v' fp' s' := by
  obtain ⟨h1, v', fp', s', h2, h3, h4, h5⟩ := hs
  refine ⟨h1, v', fp', s', h2, fun k hk => ?_, h.below.trans (h4.below h.below.size h.new), h3.trans h.p⟩
  rcases h5 k hk with h6 | h6
  · exact h.new k h6
  · exact Nat.le_trans h.below.size h6
theorem Since.on {W0 : World} {N b p : Nat} {w w' : World} {g : LG} {v : WV} {fp : List Nat} {s : List Sv} (h : Since W0 N w b p g v fp s) (hb : Below w.heap.size w w') : Since W0 N w' b p g v fp s := ⟨h.log.below hb, h.new, h.below.trans (hb.mono h.below.size), h.p⟩
theorem Since.more {W0 : World} {N M b p : Nat} {w : World} {g : LG} {v : WV} {fp : List Nat} {s : List Sv} (h : Since W0 N w b p g v fp s) (hm : N ≤ M) : Since W0 M w b p g v fp s := ⟨h.log.more hm, h.new, h.below, h.p⟩
theorem new_byte (w : World) (k : Nat) (b : Nat) (v : WV) (fp : List Nat) (n : Nat) (f : Nat × Nat) (hlt : ∀ k ∈ logF b v fp, k < w.heap.size) : RowX (logF b v fp) ((w.drewN k).alloc (.cells #[.int .u8 (n : Int)] 5 f)) (.slice (some ⟨w.heap.size, 0, none⟩) 1 1) [n] := by
  have h2 : ((w.drewN k).alloc (.cells #[.int .u8 (n : Int)] 5 f)).heap[w.heap.size]? = some (.cells #[.int .u8 (n : Int)] 5 f) := alloc_newQ (w.drewN k) _
  refine ⟨⟨_, _, rfl, Nat.le_refl _, fun h => (by cases h), fun _ => ⟨w.heap.size, 0, rfl, (Array.getElem?_eq_some_iff.1 h2).1, fun i hi => ?_⟩⟩, fun bb off len cap e _ hm => ?_⟩
  · simp only [List.length_singleton] at hi
    have hi0 : i = 0 := by omega
    subst hi0
    simp only [World.cell?, h2]
    rfl
  · simp only [Value.slice.injEq, Option.some.injEq, Addr.mk.injEq] at e
    have := hlt bb hm
    omega
/-- Open, of a disk that was made since. -/
theorem open_since {W0 : World} {N p fr first : Nat} {d : DS} {fp : List Nat} {w : World} {g : LG} (h : DiskAt N w p d fp) (hb : Below W0.heap.size W0 w) (hf : ∀ k ∈ fp, W0.heap.size ≤ k) (hN : N < 134217728) (hfr : fr < 18446744073709551616) (hfi : first < 18446744073709551616)
    (hok : ∀ a ∈ areasS d.secs, 0 ≤ a ∧ a < 18446744073709551616) (hup : nextN d fr ≤ 1152921504606846976 → ∀ x ∈ numsN d, x ≤ 1152921504606846976) (hcnt : (numsN d).length ≤ 16000) (hB : ∀ a i u, curOf d.secs a i = some u → ∀ y ∈ u, y < 256) (hg : openG d fr first = (0, g)) :
    Calls Tryz.prog 12 #[.pointer (some ⟨p, 0, none⟩), .int .u64 (fr : Int), .int .u64 (first : Int)] w fun e w' => ∃ b v fp' s, e = .returned (.tuple #[.pointer (some ⟨b, 0, none⟩), .int .i64 0]) ∧ Since W0 (N + 16000) w' b p g v fp' s := by
  refine (Open_any N p fr first d fp w h hN hfr hfi hok hup hcnt hB).mono ?_
  rintro e w' (⟨h1, _⟩ | ⟨_, b, v, fp', s, rfl, h2, h3, h4, h5, h6⟩)
  · rw [hg] at h1; exact absurd rfl h1
  · rw [hg] at h2
    refine ⟨b, v, fp', s, rfl, h2.more (by omega), fun k hk => ?_, hb.trans (h5.below hb.size hf), h3⟩
    rcases h6 k hk with h7 | h7
    · exact hf k h7
    · exact Nat.le_trans hb.size h7
theorem app_since {W0 : World} {N b p n : Nat} {w : World} {g g2 : LG} {v : WV} {fp : List Nat} {s : List Sv} (h : Since W0 N w b p g v fp s) (hg : appG g [n] = (0, g2)) (hok : LOk g) (hN : N < 100000000) (h1 : g.tl.length ≤ 100) (h2 : g.l.length ≤ 100) (k : Nat) (f : Nat × Nat) (z : Int) (hz : z = (n : Int)) :
    Calls Tryz.prog 28 #[.pointer (some ⟨b, 0, none⟩), .slice (some ⟨w.heap.size, 0, none⟩) 1 1] ((w.drewN k).alloc (.cells #[.int .u8 z] 5 f)) fun e w' => e = .returned (.int .i64 0) ∧ ∃ v' fp' s', Since W0 (N + 1000) w' b p g2 v' fp' s' := by
  subst hz
  have hs : Since W0 N ((w.drewN k).alloc (.cells #[.int .u8 (n : Int)] 5 f)) b p g v fp s := h.on ((belowN (Below.refl _ w) k).alloc (Nat.le_refl _) _)
  have hx : RowX (logF b v fp) ((w.drewN k).alloc (.cells #[.int .u8 (n : Int)] 5 f)) (.slice (some ⟨w.heap.size, 0, none⟩) 1 1) [n] := new_byte w k b v fp n f h.log.lt
  refine (App_any N b g v fp s [n] _ _ hs.log hx hok (by omega) (by simp)).mono ?_
  rw [hg]
  rintro e w' hsays
  obtain ⟨rfl, v', fp', s', h3⟩ := hs.says hsays
  exact ⟨rfl, v', fp', s', h3.more (by omega)⟩
theorem sync_since {W0 : World} {N b p : Nat} {w : World} {g g2 : LG} {v : WV} {fp : List Nat} {s : List Sv} (h : Since W0 N w b p g v fp s) (hg : syncG g = (0, g2)) (hok : LOk g) (hN : N < 100000000) (h2 : g.l.length ≤ 100) :
    Calls Tryz.prog 24 #[.pointer (some ⟨b, 0, none⟩)] w fun e w' => e = .returned (.int .i64 0) ∧ ∃ v' fp' s', Since W0 (N + 1000) w' b p g2 v' fp' s' := by
  refine (Sync_log N b g v fp s w h.log hok (by omega)).mono ?_
  rw [hg]
  rintro e w' hsays
  obtain ⟨rfl, v', fp', s', h3⟩ := h.says hsays
  exact ⟨rfl, v', fp', s', h3.more (by omega)⟩
theorem first_since {W0 : World} {N b p : Nat} {w : World} {g : LG} {v : WV} {fp : List Nat} {s : List Sv} (h : Since W0 N w b p g v fp s) (z : Int) (hz : (g.first : Int) = z) : Calls Tryz.prog 16 #[.pointer (some ⟨b, 0, none⟩)] w fun e w' => e = .returned (.int .u64 z) ∧ w' = w := by
  subst hz
  exact WFirst_any w b g.n v h.log.wal
theorem last_since {W0 : World} {N b p : Nat} {w : World} {g : LG} {v : WV} {fp : List Nat} {s : List Sv} (h : Since W0 N w b p g v fp s) (hs : g.first + g.L.length < 4611686018427387904) (z : Int) (hz : IntKind.u64.wrap (((g.first + g.L.length : Nat) : Int) - 1) = z) : Calls Tryz.prog 30 #[.pointer (some ⟨b, 0, none⟩)] w fun e w' => e = .returned (.int .u64 z) ∧ ∃ k, w' = w.drewN k := by
  subst hz
  exact WLast_any w b g.n v h.log.wal (show g.first + g.L.length < _ by omega) (show g.L.length ≤ _ by omega)
set_option maxHeartbeats 4000000 in
theorem alive5_any (w : World) : Calls Tryz.prog 11 #[] w fun e w' => e = .returned (.bool true) ∧ Below w.heap.size w w' := by
  have hz := zn_open 100 0
  go_enter Tryz.func11, Tryz.ntmps11
  go_wp2_with fail
  refine (New_any 100 w (by omega) (by omega)).mono ?_
  rintro e w1 ⟨p, fp, rfl, hd1, hb1, hf1⟩
  have HO : Hid (Calls Tryz.prog 12 #[.pointer (some ⟨p, 0, none⟩), .int .u64 0, .int .u64 5] w1 fun e w' => ∃ b v fp' s, e = .returned (.tuple #[.pointer (some ⟨b, 0, none⟩), .int .i64 0]) ∧ Since w (0 + 16000) w' b p z0 v fp' s) :=
    open_since (fr := 0) (first := 5) hd1 hb1 hf1 (by omega) (by omega) (by omega) hz.1 hz.2.1 (by rw [hz.2.2.1]; omega) hz.2.2.2 z0_is
  clear hz hd1 hb1 hf1
  go_wp2_with fail
  refine HO.out.mono ?_
  rintro e w2 ⟨b, v, fp2, s, rfl, hs2⟩
  have HS2 : Hid (Since w 16000 w2 b p z0 v fp2 s) := hs2
  clear hs2 HO
  go_wp2_with fail
  refine (first_since HS2.out 5 (by rw [z0_facts.1]; rfl)).mono ?_
  rintro e w3 ⟨rfl, rfl⟩
  go_wp2_with fail
  refine (last_since HS2.out (by rw [z0_facts.1, z0_facts.2.1]; omega) 4 (by rw [z0_facts.1, z0_facts.2.1]; rfl)).mono ?_
  rintro e w3 ⟨rfl, k3, rfl⟩
  have hconv : (convert 34 34 (.slice (some ⟨w3.heap.size, 0, none⟩) 1 1)).run Tryz.prog ((w3.drewN k3).alloc (.cells #[.int .u8 97] 5)) = .ok (.slice (some ⟨w3.heap.size, 0, none⟩) 1 1) ((w3.drewN k3).alloc (.cells #[.int .u8 97] 5 (1, 2))) := Lib.run_convert_bytes_const (P := Tryz.prog) (w3.drewN k3) 34 5 #[.int .u8 97] 1 1 Tryz.underlying34 Tryz.underlying5
  go_wp2_with fail
  clear hconv
  refine (app_since HS2.out z1_is z0_ok (by omega) (by rw [z0_facts.2.2.1]; omega) (by rw [z0_facts.2.2.2]; omega) k3 _ 97 rfl).mono ?_
  rintro e w4 ⟨rfl, v4, fp4, s4, hs4⟩
  have HS4 : Hid (Since w 17000 w4 b p z1 v4 fp4 s4) := hs4
  clear hs4
  have hconv := Lib.run_convert_bytes_const (P := Tryz.prog) w4 34 5 #[.int .u8 98] 1 1 Tryz.underlying34 Tryz.underlying5
  go_wp2_with fail
  clear hconv
  refine (app_since HS4.out z2_is z1_ok (by omega) (by have := z1_facts.1; omega) (by have := z1_facts.2; omega) 0 _ 98 rfl).mono ?_
  rintro e w5 ⟨rfl, v5, fp5, s5, hs5⟩
  have HS5 : Hid (Since w 18000 w5 b p z2 v5 fp5 s5) := hs5
  clear hs5
  go_wp2_with fail
  refine (sync_since HS5.out z3_is z2_ok (by omega) (by have := z2_facts.2; omega)).mono ?_
  rintro e w6 ⟨rfl, v6, fp6, s6, hs6⟩
  have HS6 : Hid (Since w 19000 w6 b p z3 v6 fp6 s6) := hs6
  have hz3 := z3_open
  have HD6 : Hid (DiskAt 19000 w6 p z3.d fp6 ∧ ∀ k ∈ fp6, w.heap.size ≤ k) := by
    have h1 := hs6.log.disk
    rw [hs6.p] at h1
    exact ⟨h1, fun k hk => hs6.new k (by simp [logF, hk])⟩
  have HO : Hid (Calls Tryz.prog 12 #[.pointer (some ⟨p, 0, none⟩), .int .u64 0, .int .u64 5] w6 fun e w' => ∃ b v fp' s, e = .returned (.tuple #[.pointer (some ⟨b, 0, none⟩), .int .i64 0]) ∧ Since w (19000 + 16000) w' b p z4 v fp' s) :=
    open_since (fr := 0) (first := 5) HD6.out.1 HS6.out.below HD6.out.2 (by omega) (by omega) (by omega) hz3.1 (fun _ => hz3.2.1) hz3.2.2.1 (cur_bytes hz3.2.2.2) z4_is
  clear hs6 hz3
  go_wp2_with fail
  refine HO.out.mono ?_
  rintro e w7 ⟨b7, v7, fp7, s7, rfl, hs7⟩
  have HS7 : Hid (Since w 35000 w7 b7 p z4 v7 fp7 s7) := hs7
  clear hs7 HO
  go_wp2_with fail
  have hget := Get_any w7 b7 z4.n v7 z4.L 6 HS7.out.log.wal HS7.out.log.recsAt rfl (show z4.first + z4.L.length < _ by rw [z4_facts.1, z4_facts.2]; simp) (show z4.L.length ≤ _ by rw [z4_facts.2]; simp) (by rw [z4_facts.2]; intro xs hx; simp at hx; rcases hx with rfl | rfl <;> simp)
  have HG : Hid (Calls Tryz.prog 36 #[.pointer (some ⟨b7, 0, none⟩), .int .u64 6] w7 fun e w' => Below w7.heap.size w7 w' ∧ ∃ rv, e = .returned (.tuple #[rv, .bool true]) ∧ Row w'.heap.size w' rv [98]) := by
    refine hget.mono ?_
    have e1 : z4.n.first = 5 := z4_facts.1
    have e2 : z4.n.many = 2 := by show z4.L.length = 2; rw [z4_facts.2]; rfl
    rintro e w' ⟨hb, ⟨h1, _⟩ | ⟨xs, rv, h1, h2, h3, h4⟩⟩
    · exact absurd ⟨by omega, by omega⟩ h1
    · rw [e1, z4_facts.2] at h2
      simp at h2
      subst h2
      exact ⟨hb, rv, h3, h4⟩
  clear hget
  refine HG.out.mono ?_
  rintro e w8 ⟨hb8, rv, rfl, hrv⟩
  obtain ⟨ra8, rc8, rfl, _⟩ := hrv.shape
  have HS8 : Hid (Since w 35000 w8 b7 p z4 v7 fp7 s7) := HS7.out.on hb8
  have hstr := hrv.str
  have HR8 : Hid (Row w8.heap.size w8 (.slice ra8 [98].length rc8) [98]) := hrv
  clear hb8 hrv HG
  go_wp2_with fail
  refine (last_since HS8.out (by rw [z4_facts.1, z4_facts.2]; simp) 6 (by rw [z4_facts.1, z4_facts.2]; rfl)).mono ?_
  rintro e w9 ⟨rfl, k9, rfl⟩
  clear hstr
  have hr9 : Row (w8.drewN k9).heap.size (w8.drewN k9) (.slice ra8 [98].length rc8) [98] := HR8.out
  have hs9 : (convert 34 9 (.slice ra8 1 rc8)).run Tryz.prog (w8.drewN k9) = .ok (.string { data := #[98] }) (w8.drewN k9) := hr9.str
  clear hr9
  go_wp2_with fail
  go_ret
  exact ⟨by rfl, HS8.out.below.trans (belowN (Below.refl _ _) _)⟩
end Go.Proofs.YthecngkdmnadoaaGreat

/- A call of a script on a log. -/
namespace Go.Proofs.YthecngkdmnadoaaGreat
open Go.RowKit
set_option maxRecDepth 100000

/-- The index that a call names. -/
def ixG (g : LG) (z : Int) : Nat := (IntKind.u64.wrap ((g.first : Int) + IntKind.u64.wrap z)).toNat
def doesG (g : LG) (k z : Int) (x : List Nat) : Int × LG :=
  if k = 0 then appG g x else if k = 1 then syncG g else if k = 2 then truncG g (ixG g z) else if k = 3 then compG g (ixG g z) else (0, g)
theorem wrap_u64 (z : Int) : 0 ≤ IntKind.u64.wrap z ∧ IntKind.u64.wrap z < 18446744073709551616 := by
  simp only [IntKind.wrap, IntKind.bits, IntKind.signed]
  constructor
  · simp; omega
  · simp; omega
theorem ixG_is (g : LG) (z : Int) : IntKind.u64.wrap ((g.first : Int) + IntKind.u64.wrap z) = (ixG g z : Int) ∧ ixG g z < 18446744073709551616 := by
  have h := wrap_u64 ((g.first : Int) + IntKind.u64.wrap z)
  unfold ixG
  constructor
  · omega
  · omega
/-- A row of what came in, beside a log that was made since. -/
theorem Since.row {W0 : World} {N b p : Nat} {w : World} {g : LG} {v : WV} {fp : List Nat} {s : List Sv} (h : Since W0 N w b p g v fp s) {xv : Value} {x : List Nat} (hx : Row W0.heap.size W0 xv x) : RowX (logF b v fp) w xv x := by
  refine ⟨(hx.below h.below).mono h.below.size, fun bb off len cap e h0 hm => ?_⟩
  obtain ⟨ao, cap', e1, _, _, hc⟩ := hx
  obtain ⟨b', off', e2, h3, _⟩ := hc h0
  rw [e1, e2] at e
  simp only [Value.slice.injEq, Option.some.injEq, Addr.mk.injEq] at e
  have := h.new bb hm
  omega
/-- What a call leaves. -/
def SinceSays (W0 : World) (N b p : Nat) (r : Int × LG) (e : Ending) (w' : World) : Prop := e = .returned (.int .i64 r.1) ∧ ∃ v' fp' s', Since W0 N w' b p r.2 v' fp' s'
theorem Since.told {W0 : World} {N M K b p : Nat} {w w' : World} {g : LG} {v : WV} {fp : List Nat} {s : List Sv} {r : Int × LG} {e : Ending} (h : Since W0 N w b p g v fp s) (hs : LogSays M b r v fp w e w') (hm : M ≤ K) : SinceSays W0 K b p r e w' := by
  obtain ⟨h1, v', fp', s', h2⟩ := h.says hs
  exact ⟨h1, v', fp', s', h2.more hm⟩
set_option maxHeartbeats 4000000 in
theorem does5_any (W0 : World) (N b p m : Nat) (k z : Int) (x : List Nat) (xv : Value) (g : LG) (v : WV) (fp : List Nat) (s : List Sv) (w : World) (h : Since W0 N w b p g v fp s) (hx : Row W0.heap.size W0 xv x) (hsm : GSm m g) (hm : m ≤ 268435456) (hN : N < 137438952000) (hl : x.length ≤ 1099511627776) :
    Calls Tryz.prog 15 #[.pointer (some ⟨b, 0, none⟩), .agg #[.int .i64 k, .int .i64 z, xv]] w (SinceSays W0 (N + 1000 + m) b p (doesG g k z x)) := by
  have hok := hsm.lok (by omega)
  have htl := hsm.tl
  have hlm := hsm.many
  obtain ⟨hix, hixl⟩ := ixG_is g z
  obtain ⟨xa, xc, rfl, _⟩ := hx.shape
  have HA : Hid (∀ W, Since W0 N W b p g v fp s → Calls Tryz.prog 28 #[.pointer (some ⟨b, 0, none⟩), .slice xa x.length xc] W (SinceSays W0 (N + 1000 + m) b p (appG g x))) := fun W hW =>
    (App_any N b g v fp s x _ W hW.log (hW.row hx) hok (by omega) hl).mono (fun e w' hs => hW.told hs (by omega))
  have HY : Hid (∀ W, Since W0 N W b p g v fp s → Calls Tryz.prog 24 #[.pointer (some ⟨b, 0, none⟩)] W (SinceSays W0 (N + 1000 + m) b p (syncG g))) := fun W hW =>
    (Sync_log N b g v fp s W hW.log hok (by omega)).mono (fun e w' hs => hW.told hs (by omega))
  have HT : Hid (∀ W, Since W0 N W b p g v fp s → Calls Tryz.prog 42 #[.pointer (some ⟨b, 0, none⟩), .int .u64 (ixG g z : Int)] W (SinceSays W0 (N + 1000 + m) b p (truncG g (ixG g z)))) := fun W hW =>
    (Trunc_log N b _ g v fp s W hW.log hok (by omega) hixl).mono (fun e w' hs => hW.told hs (by omega))
  have HC : Hid (∀ W, Since W0 N W b p g v fp s → Calls Tryz.prog 29 #[.pointer (some ⟨b, 0, none⟩), .int .u64 (ixG g z : Int)] W (SinceSays W0 (N + 1000 + m) b p (compG g (ixG g z)))) := fun W hW =>
    (Comp_log N b _ g v fp s W hW.log hok (by omega)).mono (fun e w' hs => hW.told hs (by omega))
  have HS : Hid (∀ ob k, Since W0 N ((w.alloc ob).drewN k) b p g v fp s) := fun ob k => h.on (belowN ((Below.refl _ w).alloc (Nat.le_refl _) _) _)
  have hgf := hok.recs
  obtain ⟨i, hi⟩ : ∃ i, ixG g z = i := ⟨_, rfl⟩
  have HD : Hid (doesG g k z x = if k = 0 then appG g x else if k = 1 then syncG g else if k = 2 then truncG g i else if k = 3 then compG g i else (0, g)) := by show _ = _; rw [← hi]; rfl
  rw [hi] at hix HT HC
  clear h hx hok hsm hi htl hlm
  by_cases k0 : k = 0
  · subst k0
    obtain ⟨r, hr⟩ : ∃ r, appG g x = r := ⟨_, rfl⟩
    rw [hr] at HA
    have HD2 : Hid (doesG g 0 z x = r) := by show _ = _; rw [HD.out, if_pos rfl, hr]
    clear HD hr
    go_enter Tryz.func15, Tryz.ntmps15
    go_wp2_with fail
    go_quiet (first | (go_at_call 16; refine Calls.quiet_of_same (first_since (HS.out _ _) _ rfl)))
    go_wp2_with fail
    refine (HA.out _ (HS.out _ _)).mono ?_
    rintro e w1 ⟨rfl, v1, fp1, s1, hs1⟩
    have HF : Hid (SinceSays W0 (N + 1000 + m) b p r (.returned (.int .i64 r.1)) w1) := ⟨rfl, v1, fp1, s1, hs1⟩
    clear hs1
    go_wp2_with fail
    go_ret
    rw [HD2.out]
    exact HF.out
  by_cases k1 : k = 1
  · subst k1
    obtain ⟨r, hr⟩ : ∃ r, syncG g = r := ⟨_, rfl⟩
    rw [hr] at HY
    have HD2 : Hid (doesG g 1 z x = r) := by show _ = _; rw [HD.out, if_neg (by decide), if_pos rfl, hr]
    clear HD hr k0
    go_enter Tryz.func15, Tryz.ntmps15
    go_wp2_with fail
    go_quiet (first | (go_at_call 16; refine Calls.quiet_of_same (first_since (HS.out _ _) _ rfl)))
    go_wp2_with fail
    refine (HY.out _ (HS.out _ _)).mono ?_
    rintro e w1 ⟨rfl, v1, fp1, s1, hs1⟩
    have HF : Hid (SinceSays W0 (N + 1000 + m) b p r (.returned (.int .i64 r.1)) w1) := ⟨rfl, v1, fp1, s1, hs1⟩
    clear hs1
    go_wp2_with fail
    go_ret
    rw [HD2.out]
    exact HF.out
  by_cases k2 : k = 2
  · subst k2
    obtain ⟨r, hr⟩ : ∃ r, truncG g i = r := ⟨_, rfl⟩
    rw [hr] at HT
    have HD2 : Hid (doesG g 2 z x = r) := by show _ = _; rw [HD.out, if_neg (by decide), if_neg (by decide), if_pos rfl, hr]
    clear HD hr k0 k1
    go_enter Tryz.func15, Tryz.ntmps15
    go_wp2_with fail
    go_quiet (first | (go_at_call 16; refine Calls.quiet_of_same (first_since (HS.out _ _) _ rfl)))
    go_wp2_with fail
    refine (HT.out _ (HS.out _ _)).mono ?_
    rintro e w1 ⟨rfl, v1, fp1, s1, hs1⟩
    have HF : Hid (SinceSays W0 (N + 1000 + m) b p r (.returned (.int .i64 r.1)) w1) := ⟨rfl, v1, fp1, s1, hs1⟩
    clear hs1
    go_wp2_with fail
    go_ret
    rw [HD2.out]
    exact HF.out
  by_cases k3 : k = 3
  · subst k3
    obtain ⟨r, hr⟩ : ∃ r, compG g i = r := ⟨_, rfl⟩
    rw [hr] at HC
    have HD2 : Hid (doesG g 3 z x = r) := by show _ = _; rw [HD.out, if_neg (by decide), if_neg (by decide), if_neg (by decide), if_pos rfl, hr]
    clear HD hr k0 k1 k2
    go_enter Tryz.func15, Tryz.ntmps15
    go_wp2_with fail
    go_quiet (first | (go_at_call 16; refine Calls.quiet_of_same (first_since (HS.out _ _) _ rfl)))
    go_wp2_with fail
    refine (HC.out _ (HS.out _ _)).mono ?_
    rintro e w1 ⟨rfl, v1, fp1, s1, hs1⟩
    have HF : Hid (SinceSays W0 (N + 1000 + m) b p r (.returned (.int .i64 r.1)) w1) := ⟨rfl, v1, fp1, s1, hs1⟩
    clear hs1
    go_wp2_with fail
    go_ret
    rw [HD2.out]
    exact HF.out
  have HD2 : Hid (doesG g k z x = (0, g)) := by show _ = _; rw [HD.out, if_neg k0, if_neg k1, if_neg k2, if_neg k3]
  have e0 : (k == 0) = false := by simpa using k0
  have e1 : (k == 1) = false := by simpa using k1
  have e2 : (k == 2) = false := by simpa using k2
  have e3 : (k == 3) = false := by simpa using k3
  clear HD k0 k1 k2 k3
  go_enter Tryz.func15, Tryz.ntmps15
  go_wp2_with fail
  go_quiet (first | (go_at_call 16; refine Calls.quiet_of_same (first_since (HS.out _ _) _ rfl)))
  go_wp2_with fail
  go_ret
  rw [HD2.out]
  exact ⟨rfl, v, fp, s, (HS.out _ _).more (by omega)⟩
end Go.Proofs.YthecngkdmnadoaaGreat

/- What every call of a script keeps. -/
namespace Go.Proofs.YthecngkdmnadoaaGreat
open Go.RowKit
set_option maxRecDepth 100000

theorem ixG_lt (g : LG) (z : Int) : ixG g z < 18446744073709551616 := (ixG_is g z).2
theorem does_small {k : Nat} {g : LG} (h : GSm k g) (kd z : Int) (x : List Nat) (hk : k ≤ 1073741824) : GSm (k + 1) (doesG g kd z x).2 := by
  unfold doesG
  split
  · exact appG_small h x hk
  · split
    · exact syncG_small h hk
    · split
      · exact truncG_small h _ (ixG_lt g z)
      · split
        · exact compG_small h _
        · exact h.more (Nat.le_succ k)
theorem does_di (g : LG) (kd z : Int) (x : List Nat) (h : g.d.dead = false) : DI (doesG g kd z x).2 := by
  unfold doesG
  split
  · exact di_app g x h
  · split
    · exact di_sync g h
    · split
      · exact di_trunc g _ h
      · split
        · exact di_comp g _ h
        · exact fun hd => by rw [h] at hd; cases hd
/-- No record is long. -/
def GRec (g : LG) : Prop := ∀ xs ∈ g.L, xs.length ≤ 512
theorem GRec.sub {g g' : LG} (h : GRec g) (hs : ∀ x ∈ g'.L, x ∈ g.L) : GRec g' := fun x hx => h x (hs x hx)
theorem does_rec {g : LG} (h : GRec g) (kd z : Int) (x : List Nat) : GRec (doesG g kd z x).2 := by
  unfold doesG
  split
  · unfold appG
    split
    · exact h
    · split
      · exact h
      · split
        · exact h
        · split
          · exact h.sub (fun y hy => by rwa [keepG_L, extG_L] at hy)
          · intro y hy
            rcases List.mem_append.1 hy with h1 | h1
            · rw [keepG_L, extG_L] at h1
              exact h y h1
            · rw [List.mem_singleton.1 h1]
              omega
  · split
    · unfold syncG
      split
      · exact h
      · split
        · split
          · exact h.sub (fun y hy => by rwa [keepG_L, beginG_L] at hy)
          · refine h.sub (fun y hy => ?_)
            rw [sydG_g] at hy
            have hy2 : y ∈ (keepG (beginG g g.first [])).2.L := hy
            rwa [keepG_L, beginG_L] at hy2
        · refine h.sub (fun y hy => ?_)
          rw [sydG_g] at hy
          exact hy
    · split
      · unfold truncG
        split
        · exact h
        · split
          · exact h
          · split
            · exact h
            · split
              · exact h.sub (fun y hy => by rwa [keepG_L, beginG_L] at hy)
              · refine h.sub (fun y hy => ?_)
                have hy2 := List.mem_of_mem_take (show y ∈ ((keepG (beginG g (ixG g z) [])).2.L.take (ixG g z - g.first)) from hy)
                rwa [keepG_L, beginG_L] at hy2
      · split
        · unfold compG
          split
          · exact h
          · split
            · exact h
            · split
              · exact h
              · split
                · exact h
                · exact h.sub (fun y hy => List.mem_of_mem_drop (show y ∈ g.L.drop (ixG g z - g.first) from hy))
        · exact h
theorem does_halt {g : LG} (h : g.fault = 30) {kd : Int} (h0 : 0 ≤ kd) (h4 : kd < 4) (z : Int) (x : List Nat) : doesG g kd z x = (30, g) := by
  have hf : ¬ g.fault = 0 := by rw [h]; decide
  unfold doesG
  split
  · rw [appG, if_pos hf, h]
  · split
    · rw [syncG, if_pos hf, h]
    · split
      · rw [truncG, if_pos hf, h]
      · split
        · rw [compG, if_pos hf, h]
        · omega
/-- The log that is opened on a new disk. -/
def y0 : LG := (openG (newD 1073741824) 0 1).2
set_option maxHeartbeats 2000000
theorem y0_is : openG (newD 1073741824) 0 1 = (0, y0) := Prod.ext (by decide +kernel) rfl
theorem y0_small : GSm 4 y0 := ⟨by decide +kernel, by decide +kernel, by decide +kernel, by decide +kernel, by decide +kernel, by decide +kernel⟩
theorem y0_rec : y0.L = [] := by decide +kernel
theorem y0_live : y0.d.dead = false ∧ y0.fault = 0 := by decide +kernel
end Go.Proofs.YthecngkdmnadoaaGreat

/- Rows of strings that a call has made. -/
namespace Go.Proofs.YthecngkdmnadoaaGreat
open Go.RowKit
set_option maxRecDepth 100000

def strVals (vs : List (List Nat)) : List Value := vs.map fun u => .string (strB u)
def StrOwn (B : Nat) (w : World) (v : Value) (vs : List (List Nat)) : Prop := w.ownsRow B 9 1 v vs.length (strVals vs)
theorem info_str : (Tryz.prog.info? 9).map (fun i => (i.zero, i.size, i.bytes)) = some (some (.string (ByteArray.mk #[])), 1, 16) := by kernel_rfl
theorem StrOwn.nil (B : Nat) (w : World) : StrOwn B w (.slice none 0 0) [] := World.ownsRow_nil _ _ _ _
theorem StrOwn.below {B : Nat} {w w' : World} {v : Value} {vs : List (List Nat)} (h : StrOwn B w v vs) (hb : Below w.heap.size w w') : StrOwn B w' v vs := by
  obtain ⟨hl, hn | ⟨g, cap, cur, rfl, h1, hg, h2⟩⟩ := h
  · exact ⟨hl, .inl hn⟩
  · exact ⟨hl, .inr ⟨g, cap, cur, rfl, h1, (hb.block g (Array.getElem?_eq_some_iff.1 hg).1).trans hg, h2⟩⟩
theorem StrOwn.shape {B : Nat} {w : World} {v : Value} {vs : List (List Nat)} (h : StrOwn B w v vs) : ∃ ad cap, v = .slice ad vs.length cap := by
  obtain ⟨hl, ⟨e, h0⟩ | ⟨g, cap, cur, rfl, _⟩⟩ := h
  · exact ⟨none, 0, by rw [e, h0]⟩
  · exact ⟨_, cap, rfl⟩
theorem StrOwn.cell {B : Nat} {w : World} {v : Value} {vs : List (List Nat)} (h : StrOwn B w v vs) {i : Nat} {u : List Nat} (hi : vs[i]? = some u) : ∃ g cap, v = .slice (some ⟨g, 0, none⟩) vs.length cap ∧ B ≤ g ∧ g < w.heap.size ∧ vs.length ≤ cap ∧ ∀ j u, vs[j]? = some u → w.cell? ⟨g, j, none⟩ = some (.string (strB u)) := by
  obtain ⟨hl, ⟨e, h0⟩ | ⟨g, cap, cur, rfl, h1, hg, h2, h3, h4, h5⟩⟩ := h
  · rw [List.eq_nil_of_length_eq_zero h0] at hi
    cases hi
  · refine ⟨g, cap, rfl, h1, (Array.getElem?_eq_some_iff.1 hg).1, h2, fun j u hj => ?_⟩
    have e : (strVals vs)[j]? = some (.string (strB u)) := by rw [strVals, List.getElem?_map, hj]; rfl
    rw [← h5, List.getElem?_take] at e
    split at e
    · simpa [World.cell?, hg] using e
    · cases e
/-- 'append(s, x)': the string x lies in a block that was made for it. -/
theorem append_trun {w : World} {B : Nat} {v : Value} {l : List (List Nat)} (x : List Nat) (nb c : Nat) (hown : StrOwn B w v l) (hx : w.cell? ⟨nb, 0, none⟩ = some (.string (strB x))) (hB : B ≤ w.heap.size) (h63 : l.length < 2199023255552) (ty : TypeId) :
    ∃ v' w', (Builtin.append_ #[31, 31] ty #[v, .slice (some ⟨nb, 0, none⟩) 1 c]).run Tryz.prog w = .ok v' w' ∧ StrOwn B w' v' (l ++ [x]) ∧ w.grownBy w' v.ownBlock := by
  obtain ⟨i0, hi, hz0, hz1, hz2⟩ := info_parts info_str
  obtain ⟨v', w', h1, h2, h3, _⟩ := run_append_own (P := Tryz.prog) w B 31 ty 9 i0 _ 1 16 Tryz.underlying31 hi hz0 hz1 hz2 rfl (by decide) v l.length _ hown ⟨nb, 0, none⟩ 1 c [.string (strB x)] rfl (fun j u hj => by
    match j, hj with
    | 0, hj => simp at hj; rw [← hj]; simpa [Addr.add] using hx
    | j + 1, hj => simp at hj) (by intro u hu; simp at hu; rw [hu]; rfl) (by simp only [maxLen]; omega) (by omega) hB
  refine ⟨v', w', h1, ?_, h3⟩
  unfold StrOwn
  rw [List.length_append, strVals, List.map_append]
  exact h2
theorem append_t {W : World} {ops : Array Oper} {rest : List Oper} {o : Oper} {a : Act} {Q : Exit → Act → World → Prop} (hgd : o.guard = none) (s y : Operand) (x : List Nat) (T : TypeId)
    (ho : o.op = .call { callee := .builtin .append, args := #[s, y], argTypes := #[31, 31] }) (B nb c : Nat) (v : Value) (l : List (List Nat)) (hs : a.eval s = v) (hown : StrOwn B W v l) (hx : a.eval y = .slice (some ⟨nb, 0, none⟩) 1 c) (hnb : nb = W.heap.size) (h63 : l.length < 2199023255552) (hB : B ≤ W.heap.size)
    (h : ∀ v' w', StrOwn B w' v' (l ++ [x]) → Below B W w' → wpList Tryz.prog ops Q rest (a.put o.dst v') w') : wpList Tryz.prog ops Q (o :: rest) a (W.alloc (.cells #[.string (strB x)] T)) := by
  subst hnb
  have hb : Below W.heap.size W (W.alloc (.cells #[.string (strB x)] T)) := (Below.refl _ W).alloc (Nat.le_refl _) _
  obtain ⟨v', w', h1, h2, h3⟩ := append_trun (w := W.alloc (.cells #[.string (strB x)] T)) x W.heap.size c (hown.below hb) (by simp) (by simp; omega) h63 o.type
  refine wpList_plain hgd fun _ hK => ?_
  unfold Oper.wp execOp
  simp only [ho, resolve, invoke, builtin, Sem.run_bind, Sem.run_pure, Result.andThen_ok, List.map_toArray, List.map_cons, List.map_nil, hs, hx, h1]
  exact hK _ _ (h v' w' h2 (((hb.mono hB).grown h3 (by simp; omega) (fun k hk => (World.ownsRow.lt hown k hk).1))))
end Go.Proofs.YthecngkdmnadoaaGreat

/- The law's all: all records of a log. -/
namespace Go.Proofs.YthecngkdmnadoaaGreat
open Go.RowKit
set_option maxRecDepth 100000

theorem lastz_is {W0 : World} {N b p : Nat} {g : LG} {v : WV} {fp : List Nat} {s : List Sv} (hs : g.first + g.L.length < 4611686018427387904) : ∃ la : Int, IntKind.u64.wrap (((g.first + g.L.length : Nat) : Int) - 1) = la ∧ IntKind.u64.wrap (la + 1) = ((g.first + g.L.length : Nat) : Int) ∧ 0 ≤ la ∧ la < 18446744073709551616 ∧ ∀ W, Since W0 N W b p g v fp s → Calls Tryz.prog 30 #[.pointer (some ⟨b, 0, none⟩)] W fun e w' => e = .returned (.int .u64 la) ∧ ∃ k, w' = W.drewN k := by
  refine ⟨IntKind.u64.wrap (((g.first + g.L.length : Nat) : Int) - 1), rfl, ?_, ?_, ?_, fun W hW => last_since hW hs _ rfl⟩
  all_goals
    simp only [IntKind.wrap, IntKind.bits, IntKind.signed]
    simp
    omega
set_option maxHeartbeats 4000000 in
theorem all5_any (W0 : World) (N b p : Nat) (g : LG) (v : WV) (fp : List Nat) (s : List Sv) (w : World) (h : Since W0 N w b p g v fp s) (hs : g.first + g.L.length < 1099511627776) (hx : ∀ xs ∈ g.L, xs.length ≤ 140737488355328) :
    Calls Tryz.prog 18 #[.pointer (some ⟨b, 0, none⟩)] w fun e w' => Below w.heap.size w w' ∧ ∃ sv, e = .returned sv ∧ StrOwn w.heap.size w' sv g.L := by
  obtain ⟨la, -, hla, hla0, hla1, hlast⟩ := lastz_is (W0 := W0) (N := N) (b := b) (p := p) (g := g) (v := v) (fp := fp) (s := s) (by omega)
  have HLA : Hid (∀ W, Since W0 N W b p g v fp s → Calls Tryz.prog 30 #[.pointer (some ⟨b, 0, none⟩)] W fun e w' => e = .returned (.int .u64 la) ∧ ∃ k, w' = W.drewN k) := hlast
  have HS : Hid (Since W0 N w b p g v fp s) := h
  have HGT : Hid (∀ W (j ij : Nat), g.first + j = ij → Since W0 N W b p g v fp s → j < g.L.length → Calls Tryz.prog 36 #[.pointer (some ⟨b, 0, none⟩), .int .u64 (ij : Int)] W fun e w' => Below W.heap.size W w' ∧ ∃ xs rv, g.L[j]? = some xs ∧ e = .returned (.tuple #[rv, .bool true]) ∧ Row w'.heap.size w' rv xs) := by
    rintro W j _ rfl hW hj
    have h1 : g.n.first = g.first := rfl
    have h2 : g.n.many = g.L.length := rfl
    refine (Get_any W b g.n v g.L (g.first + j) hW.log.wal hW.log.recsAt rfl (by omega) (by omega) hx).mono ?_
    rintro e w' ⟨hb, ⟨h3, _⟩ | ⟨xs, rv, _, h4, h5, h6⟩⟩
    · exact absurd ⟨by omega, by omega⟩ h3
    · rw [h1, Nat.add_sub_cancel_left] at h4
      exact ⟨hb, xs, rv, h4, h5, h6⟩
  obtain ⟨fi, hfi⟩ : ∃ fi, g.first = fi := ⟨_, rfl⟩
  obtain ⟨n, hn⟩ : ∃ n, g.L.length = n := ⟨_, rfl⟩
  obtain ⟨m, hm⟩ : ∃ m, fi + n = m := ⟨_, rfl⟩
  rw [hfi, hn, hm] at hla hs
  rw [hfi, hn] at HGT
  have HFI : Hid (∀ W, Since W0 N W b p g v fp s → Calls Tryz.prog 16 #[.pointer (some ⟨b, 0, none⟩)] W fun e w' => e = .returned (.int .u64 (fi : Int)) ∧ w' = W) := fun W hW => first_since hW _ (by rw [hfi])
  have HN : Hid (g.L.length = n) := hn
  have hfn : (m : Int) - (fi : Int) = (n : Int) := by omega
  clear h hx hfi hn hlast hla0 hla1
  go_enter Tryz.func18, Tryz.ntmps18
  go_wp2_with fail
  go_loopw [3, 4] (fun t3 t4 wr => ∃ (j : Nat), t4 = .int .u64 j ∧ j ≤ n ∧ StrOwn w.heap.size wr t3 (g.L.take j) ∧ Below w.heap.size w wr) (fun _ t4 _ => n - (intOf t4).toNat)
  case atStart => exact ⟨0, rfl, Nat.zero_le _, StrOwn.nil _ _, Below.refl _ _⟩
  case round =>
    obtain ⟨j, rfl, hj, hown, hb⟩ := hrel
    have HO : Hid (StrOwn w.heap.size wr u3 (g.L.take j) ∧ Below w.heap.size w wr) := ⟨hown, hb⟩
    clear hown hb
    by_cases hlt : j < n
    · have hlt' : (j : Int) < (n : Int) := by omega
      obtain ⟨ij, hij⟩ : ∃ ij, fi + j = ij := ⟨_, rfl⟩
      have hij' : (fi : Int) + (j : Int) = (ij : Int) := by omega
      have hijb : ij < 1099511627776 := by omega
      go_wp2_with fail
      refine (HLA.out _ (HS.out.on HO.out.2)).mono ?_
      rintro e w1 ⟨rfl, k1, rfl⟩
      go_wp2_with fail
      refine (HFI.out _ (HS.out.on (below_drewN HO.out.2 _))).mono ?_
      rintro e w1 ⟨rfl, rfl⟩
      go_wp2_with fail
      refine (HFI.out _ (HS.out.on (below_drewN HO.out.2 _))).mono ?_
      rintro e w1 ⟨rfl, rfl⟩
      go_wp2_with fail
      refine (HGT.out _ j ij hij (HS.out.on (below_drewN HO.out.2 _)) hlt).mono ?_
      rintro e w2 ⟨hb2, xs, rv, hxs, rfl, hrow⟩
      have hbd : Below wr.heap.size wr (wr.drewN k1) := below_drewN (Below.refl _ wr) k1
      have hb3 : Below wr.heap.size wr w2 := hbd.trans (hb2.mono hbd.size)
      have HO2 : Hid (StrOwn w.heap.size w2 u3 (g.L.take j) ∧ Below w.heap.size w w2) := ⟨HO.out.1.below hb3, HO.out.2.trans (hb3.mono HO.out.2.size)⟩
      have HX : Hid (g.L[j]? = some xs) := hxs
      obtain ⟨ra, rc, rfl, _⟩ := hrow.shape
      have hstr := hrow.str
      have HT : Hid (g.L.take j ++ [xs] = g.L.take (j + 1) ∧ (g.L.take j).length < 2199023255552) := ⟨by rw [List.take_add_one, hxs]; rfl, by rw [List.length_take]; omega⟩
      clear hxs hrow hb2 hb3 hbd
      go_wp2_with (at_builtin; refine append_t rfl _ _ xs _ rfl w.heap.size _ _ u3 (g.L.take j) rfl HO2.out.1 rfl rfl HT.out.2 HO2.out.2.size ?_; intro v9 w9 ho9 hb9; have H9 : Hid (StrOwn w.heap.size w9 v9 (g.L.take (j + 1)) ∧ Below w.heap.size w w9) := ⟨by rw [← HT.out.1]; exact ho9, HO2.out.2.trans hb9⟩; clear ho9 hb9)
      go_roundw
      case rel => exact ⟨j + 1, by go_num, by omega, H9.out.1, H9.out.2⟩
      case measure => simp [intOf]; omega
    · have hjn : j = n := by omega
      have hlt' : ¬ (j : Int) < (n : Int) := by omega
      have HF : Hid (StrOwn w.heap.size wr u3 g.L ∧ Below w.heap.size w wr) := ⟨by have := HO.out.1; rwa [hjn, ← HN.out, List.take_length] at this, HO.out.2⟩
      clear hjn
      go_wp2_with fail
      refine (HLA.out _ (HS.out.on HO.out.2)).mono ?_
      rintro e w1 ⟨rfl, k1, rfl⟩
      go_wp2_with fail
      refine (HFI.out _ (HS.out.on (below_drewN HO.out.2 _))).mono ?_
      rintro e w1 ⟨rfl, rfl⟩
      go_wp2_with fail
      go_ret
      exact ⟨below_drewN HF.out.2 _, u3, rfl, HF.out.1.below (below_drewN (Below.refl _ _) _)⟩
end Go.Proofs.YthecngkdmnadoaaGreat
