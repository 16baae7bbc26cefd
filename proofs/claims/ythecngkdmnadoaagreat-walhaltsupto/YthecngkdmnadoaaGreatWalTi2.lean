/- tidy: the walk. -/
import Derived.Test.YthecngkdmnadoaaGreatG40
namespace Go.Proofs.YthecngkdmnadoaaGreat
open Go.RowKit
set_option maxRecDepth 100000

theorem TiI.go {N b : Nat} {g : LG} {v : WV} {fp : List Nat} {s : List Sv} {w : World} {nv : Value} {xs : List Nat} {i j j2 : Nat} {ad ad2 : Option Addr} {cap cap2 : Nat} {d' d2 : DS} {fp' fp2 : List Nat} {wr w2 : World} (h : TiI N b g v fp s w nv xs i j ad cap d' fp' wr) (hd : DiskAt (N + i + 1) w2 v.p d2 fp2) (ho : Only fp' wr w2) (hs : ∀ k ∈ fp2, k ∈ fp' ∨ wr.heap.size ≤ k)
    (hr : tidyR g.d xs g.l = tidyR d2 (xs.drop (i + 1)) (g.l.drop j2)) (hj : j2 ≤ g.l.length) (hp : j2 < g.l.length → ∃ gb, v.pa = some ⟨gb, 0, none⟩ ∧ ad2 = some ⟨gb, j2 * 2, none⟩) (hc : g.l.length - j2 ≤ cap2) : TiI N b g v fp s w nv xs (i + 1) j2 ad2 cap2 d2 fp2 w2 := by
  have hoF : Only (logF b v fp') wr w2 := ho.wider (fun k hk => by simp [logF, hk])
  have hsub := logF_sub (b := b) (v := v) hs
  refine ⟨hj, h.log.turn ho hd hs, h.only.trans hoF h.sub, fun k hk => ?_, hr, hp, hc, h.row.step hoF hsub⟩
  rcases hsub k hk with h1 | h1
  · exact h.sub k h1
  · exact .inr (Nat.le_trans h.only.size h1)
/-- The disk has refused. -/
theorem TiI.bad {N b : Nat} {g : LG} {v : WV} {fp : List Nat} {s : List Sv} {w : World} {nv : Value} {xs : List Nat} {i j : Nat} {ad : Option Addr} {cap : Nat} {d' d2 : DS} {fp' fp2 : List Nat} {wr w2 : World} {e : Int} (h : TiI N b g v fp s w nv xs i j ad cap d' fp' wr) (hd : DiskAt (N + i + 1) w2 v.p d2 fp2) (ho : Only fp' wr w2) (hs : ∀ k ∈ fp2, k ∈ fp' ∨ wr.heap.size ≤ k)
    (hr : tidyR g.d xs g.l = (e, d2)) {M : Nat} (hm : N + i + 1 ≤ M) : LogSays M b (tidyG g xs) v fp w (.returned (.int .i64 e)) w2 := by
  have hoF : Only (logF b v fp') wr w2 := ho.wider (fun k hk => by simp [logF, hk])
  have hsub := logF_sub (b := b) (v := v) hs
  have hg : tidyG g xs = (e, { g with d := d2 }) := by unfold tidyG; rw [hr]
  rw [hg]
  refine ⟨rfl, v, fp2, s, (h.log.turn ho hd hs).more hm, rfl, h.only.trans hoF h.sub, fun k hk => ?_⟩
  rcases hsub k hk with h1 | h1
  · exact h.sub k h1
  · exact .inr (Nat.le_trans h.only.size h1)
theorem drop_cons {α : Type} {l : List α} {i : Nat} {x : α} (h : l[i]? = some x) : l.drop i = x :: l.drop (i + 1) := by
  rw [List.drop_eq_getElem_cons (List.getElem?_eq_some_iff.1 h).1]
  congr 1
  exact (List.getElem?_eq_some_iff.1 h).2
set_option maxHeartbeats 4000000 in
theorem tidy_any (N b : Nat) (g : LG) (v : WV) (fp : List Nat) (s : List Sv) (nv : Value) (xs : List Nat) (w : World) (h : LogAt N w b g v fp s) (hn : NRow (logF b v fp) w nv xs) (hok : LOk g) (hN : N < 137438953472) (hx : ∀ x ∈ xs, x ≤ 1152921504606846976) (hxl : xs.length < 137438953472) :
    Calls Tryz.prog 40 #[.pointer (some ⟨b, 0, none⟩), nv] w (LogSays (N + xs.length) b (tidyG g xs) v fp w) := by
  have hpn := h.len.2
  have hmany := hok.many
  obtain ⟨na, nc, e, _⟩ := id hn
  subst e
  obtain ⟨len, hlen⟩ : ∃ len, xs.length = len := ⟨_, rfl⟩
  have HLEN : Hid (xs.length = len) := hlen
  have HX : Hid (∀ x ∈ xs, x ≤ 1152921504606846976) := hx
  have hpc : v.pn ≤ v.pc := by
    obtain ⟨_, ⟨e, h0⟩ | ⟨g2, cap, cur, e, _, _, h3, _⟩⟩ := h.pl
    · simp only [Value.slice.injEq] at e; omega
    · simp only [Value.slice.injEq] at e; omega
  have HST : Hid (TiI N b g v fp s w (.slice na len nc) xs 0 0 v.pa v.pc g.d fp w) := by
    refine ⟨Nat.zero_le _, h, Only.refl _ _, fun k hk => .inl hk, rfl, fun h0 => ?_, by omega, by rw [← hlen]; exact hn⟩
    obtain ⟨_, ⟨e, h1⟩ | ⟨g2, cap, cur, e, _⟩⟩ := h.pl
    · omega
    · simp only [Value.slice.injEq] at e
      exact ⟨g2, e.1, by rw [e.1, Nat.zero_mul]⟩
  obtain ⟨c0, -, -, c3, -, -, -, -, -, -, -⟩ := h.cells
  rw [hlen] at hxl ⊢
  obtain ⟨pl, hpl⟩ : ∃ pl, g.l.length = pl := ⟨_, rfl⟩
  have HPL : Hid (g.l.length = pl) := hpl
  rw [hpl] at hpn hmany
  rw [hpn] at c3
  clear h hn hok hx hlen hpl hpn hpc
  go_enter Tryz.func40, Tryz.ntmps40
  go_wp2_with fail
  go_loopg [5, 16] len (fun m t5 t16 wr => ∃ (i j : Nat) (ad : Option Addr) (cap : Nat) (d' : DS) (fp' : List Nat), t5 = .slice ad (pl - j) cap ∧ t16 = .int .i64 (i : Int) ∧ i ≤ len ∧ len - i ≤ m ∧ Hid (TiI N b g v fp s w (.slice na len nc) xs i j ad cap d' fp' wr))
  case atStart => exact ⟨0, 0, v.pa, v.pc, g.d, fp, rfl, rfl, Nat.zero_le _, Nat.le_refl _, HST⟩
  case round =>
    clear HST c0 c3
    obtain ⟨i, j, ad, cap, d', fp', rfl, rfl, hil, him, H⟩ := hrel
    by_cases hin : i < len
    · obtain ⟨n, hn⟩ : ∃ n, xs[i]? = some n := ⟨_, List.getElem?_eq_getElem (by rw [HLEN.out]; exact hin)⟩
      have HXN : Hid (xs.drop i = n :: xs.drop (i + 1)) := drop_cons hn
      have hnn : n ≤ 1152921504606846976 := HX.out n (List.mem_of_getElem? hn)
      obtain ⟨gn, hna, hgn, hcn⟩ := H.out.row.at hn
      subst hna
      obtain ⟨q0, -, -, -, -, -, -, -, -, -, -⟩ := H.out.log.cells
      have hinz : (i : Int) < (len : Int) := by omega
      have hjl : j ≤ pl := by have := H.out.hj; rw [HPL.out] at this; exact this
      by_cases ht : ∃ x, g.l[j]? = some x ∧ x.1 = n
      · obtain ⟨x, hx, hxn⟩ := ht
        obtain ⟨gb, rfl, hpa, ⟨t0, t1⟩⟩ := H.out.head hx
        have HPA : Hid (v.pa = some ⟨gb, 0, none⟩) := hpa
        clear hpa
        subst hxn
        have hjlt : j < pl := by have := (List.getElem?_eq_some_iff.1 hx).1; rw [HPL.out] at this; exact this
        have hcap : pl - j ≤ cap := by have := H.out.cap; rw [HPL.out] at this; exact this
        have HQ : Hid (pl - j = pl - (j + 1) + 1) := by show _ = _; omega
        obtain ⟨q, hq⟩ : ∃ q, pl - j = q := ⟨_, rfl⟩
        have hq0 : (0 : Int) < (q : Int) := by omega
        have hqc : q ≤ cap := by omega
        have HTI : Hid (tidyR g.d xs g.l = (if stepE d' = 0 then tidyR (syD d' ((4 * x.1 + 1 : Nat) : Int)) (xs.drop (i + 1)) (g.l.drop (j + 1)) else (stepE d', syD d' ((4 * x.1 + 1 : Nat) : Int)))) := by
          show _ = _
          rw [H.out.rest, HXN.out, drop_cons hx, tidyR]
          simp
        have hbl : b < wr.heap.size := H.out.log.wal.lt
        obtain ⟨A, hA⟩ : ∃ A : Nat, 4 * x.1 + 1 = A := ⟨_, rfl⟩
        have HAR : Hid (∀ W, Calls Tryz.prog 38 #[.int .u64 (x.1 : Int)] W fun e w' => e = .returned (.int .u64 (A : Int)) ∧ w' = W) := fun W => hA ▸ areaOf_any x.1 W hnn
        rw [hA] at HTI
        have HSY : Hid (∀ k, Calls Tryz.prog 26 #[.pointer (some ⟨v.p, 0, none⟩), .int .u64 (A : Int)] (wr.drewN k) fun e w' => e = .returned (.int .i64 (stepE d')) ∧ ∃ fp2, DiskAt (N + i + 1) w' v.p (syD d' (A : Int)) fp2 ∧ Only fp' wr w' ∧ ∀ k ∈ fp2, k ∈ fp' ∨ wr.heap.size ≤ k) := fun k => by
          refine (Sync_any (N + i) v.p d' fp' (A : Int) (wr.drewN k) (H.out.log.disk.same fun _ _ => rfl) (by omega)).mono ?_
          rintro e w' ⟨rfl, fp2, h1, h2, h3⟩
          exact ⟨rfl, fp2, h1, ⟨h2.os, h2.tape, h2.output, h2.size, h2.block⟩, h3⟩
        obtain ⟨se, hse⟩ : ∃ se, stepE d' = se := ⟨_, rfl⟩
        rw [hse] at HSY HTI
        rw [hq]
        have HQQ : Hid (pl - j = q) := hq
        clear hse hA hq hn hx hcap
        by_cases hc1 : cap = 1
        · subst hc1
          have hq1 : q = 1 := by omega
          subst hq1
          have hS5 : ∀ k, S5 b v.p (wr.drewN k) := fun _ => q0
          go_wp2_with fail
          refine region_at (S := S5 b v.p) 9 rfl (by kernel_rfl) (hS5 1) (fun _ => ?_)
          refine take_at (i := 0) 36 rfl rfl (by kernel_rfl) (by kernel_rfl) (by kernel_rfl) (fun _ _ _ h => h) (by rfl) (fun w hSw => by (have hSw2 := S5.facts hSw; clear hSw; go_simp; first | done | exact rfl)) (by assumption) ?_
          simp only [List.setIfInBounds_toArray, List.set_cons_zero, List.set_cons_succ]
          refine take_at (i := 1) 37 rfl rfl (by kernel_rfl) (by kernel_rfl) (by kernel_rfl) (fun _ _ _ h => h) (by rfl) (fun w hSw => by (have hSw2 := S5.facts hSw; clear hSw; go_simp; first | done | exact rfl)) (by assumption) ?_
          simp only [List.setIfInBounds_toArray, List.set_cons_zero, List.set_cons_succ]
          refine take_at (i := 2) 38 rfl rfl (by kernel_rfl) (by kernel_rfl) (by kernel_rfl) (fun _ _ _ h => h) (by rfl) (fun w hSw => by (have hSw2 := S5.facts hSw; clear hSw; go_simp; first | done | exact rfl)) (by assumption) ?_
          simp only [List.setIfInBounds_toArray, List.set_cons_zero, List.set_cons_succ]
          refine take_at (i := 3) 39 rfl rfl (by kernel_rfl) (by kernel_rfl) (by kernel_rfl) (fun _ _ _ h => h) (by rfl) (fun w hSw => by (have hSw2 := S5.facts hSw; clear hSw; go_simp; first | done | exact rfl)) (by assumption) ?_
          simp only [List.setIfInBounds_toArray, List.set_cons_zero, List.set_cons_succ]
          refine take_at (i := 4) 40 rfl rfl (by kernel_rfl) (by kernel_rfl) (by kernel_rfl) (fun _ _ _ h => h) (by rfl) (fun w hSw => by (have hSw2 := S5.facts hSw; clear hSw; go_simp; first | done | exact rfl)) (by assumption) ?_
          simp only [List.setIfInBounds_toArray, List.set_cons_zero, List.set_cons_succ]
          refine take_at (i := 5) 41 rfl rfl (by kernel_rfl) (by kernel_rfl) (by kernel_rfl) (fun _ _ _ h => h) (by rfl) (fun w hSw => by (have hSw2 := S5.facts hSw; clear hSw; go_simp; first | done | exact rfl)) (by assumption) ?_
          simp only [List.setIfInBounds_toArray, List.set_cons_zero, List.set_cons_succ]
          refine take_at (i := 6) (v := .slice (some ⟨gb, j * 2, none⟩) 0 0) 42 rfl rfl (by kernel_rfl) (by kernel_rfl) (by kernel_rfl) (fun _ _ _ h => h) (by rfl) (fun w hSw => by (have hSw2 := S5.facts hSw; clear hSw; go_simp; first | done | exact rfl | simp_all | (simp; omega))) (by assumption) ?_
          simp only [List.setIfInBounds_toArray, List.set_cons_zero, List.set_cons_succ]
          refine one_value (i := 7) (v := .func (.func 26) #[.pointer (some ⟨v.p, 0, none⟩)] #[]) (w' := wr.drew) 8 (by kernel_rfl) rfl rfl (by rfl) (by kernel_rfl) (hS5 1) (fun _ => ?_)
          simp only [List.setIfInBounds_toArray, List.set_cons_zero, List.set_cons_succ]
          refine one_value (i := 8) (v := .slice (some ⟨gb, j * 2, none⟩) 0 0) (w' := wr.drew) 5 (by kernel_rfl) rfl rfl (by rfl) (by kernel_rfl) (hS5 1) (fun _ => ?_)
          obtain ⟨ad2, had2⟩ : ∃ ad2 : Option Addr, ad2 = some ⟨gb, j * 2, none⟩ := ⟨_, rfl⟩
          obtain ⟨cap2, hcap2⟩ : ∃ cap2 : Nat, cap2 = 0 := ⟨_, rfl⟩
          have Had2 : Hid (ad2 = some ⟨gb, j * 2, none⟩) := had2
          have Hcap2 : Hid (cap2 = 0) := hcap2
          have Had : Hid (j + 1 < g.l.length → ad2 = some ⟨gb, (j + 1) * 2, none⟩) := fun h0 => by have := HQQ.out; rw [HPL.out] at h0; omega
          have Hcap : Hid (pl - (j + 1) ≤ cap2) := by show _ ≤ _; have := HQQ.out; omega
          clear had2 hcap2
          refine wpAnyH_done (by kernel_rfl) ?_ _
          simp only [List.setIfInBounds_toArray, List.set_cons_zero, List.set_cons_succ]
          clear hS5
          by_cases h0 : se = 0
          · subst h0
            go_wp2_with (first
              | (go_at_call 38; refine (HAR.out _).mono ?_; rintro e w0 ⟨rfl, hw0⟩; subst w0)
              | (go_at_call 26; refine (HSY.out 1).mono ?_; rintro e w2 ⟨rfl, fp2, hd2, ho2, hs2⟩; have H2 : Hid (DiskAt (N + i + 1) w2 v.p (syD d' (A : Int)) fp2 ∧ Only fp' wr w2 ∧ ∀ k ∈ fp2, k ∈ fp' ∨ wr.heap.size ≤ k) := ⟨hd2, ho2, hs2⟩; clear hd2 ho2 hs2))
            go_roundg (len - (i + 1))
            case measure => omega
            case rel =>
              have hgo := TiI.go (j2 := j + 1) (ad2 := ad2) (cap2 := cap2) H.out H2.out.1 H2.out.2.1 H2.out.2.2 (HTI.out.trans (by simp)) (by rw [HPL.out]; exact hjlt) (fun h0 => ⟨gb, HPA.out, Had.out h0⟩) (by rw [HPL.out]; exact Hcap.out)
              exact ⟨i + 1, j + 1, ad2, cap2, _, _, by rw [Had2.out, Hcap2.out]; congr 1; have := HQQ.out; omega, by go_num, by omega, Nat.le_refl _, hgo⟩
          · have h0b : (se == 0) = false := by simpa using h0
            have HNE : Hid (¬ se = 0) := h0
            clear h0
            go_wp2_with (first
              | (go_at_call 38; refine (HAR.out _).mono ?_; rintro e w0 ⟨rfl, hw0⟩; subst w0)
              | (go_at_call 26; refine (HSY.out 1).mono ?_; rintro e w2 ⟨rfl, fp2, hd2, ho2, hs2⟩; have H2 : Hid (DiskAt (N + i + 1) w2 v.p (syD d' (A : Int)) fp2 ∧ Only fp' wr w2 ∧ ∀ k ∈ fp2, k ∈ fp' ∨ wr.heap.size ≤ k) := ⟨hd2, ho2, hs2⟩; clear hd2 ho2 hs2))
            go_ret
            exact TiI.bad H.out H2.out.1 H2.out.2.1 H2.out.2.2 (HTI.out.trans (if_neg HNE.out)) (by omega)
        · skip
          have hS5 : ∀ k, S5 b v.p (wr.drewN k) := fun _ => q0
          go_wp2_with fail
          refine region_at (S := S5 b v.p) 9 rfl (by kernel_rfl) (hS5 1) (fun _ => ?_)
          refine take_at (i := 0) 36 rfl rfl (by kernel_rfl) (by kernel_rfl) (by kernel_rfl) (fun _ _ _ h => h) (by rfl) (fun w hSw => by (have hSw2 := S5.facts hSw; clear hSw; go_simp; first | done | exact rfl)) (by assumption) ?_
          simp only [List.setIfInBounds_toArray, List.set_cons_zero, List.set_cons_succ]
          refine take_at (i := 1) 37 rfl rfl (by kernel_rfl) (by kernel_rfl) (by kernel_rfl) (fun _ _ _ h => h) (by rfl) (fun w hSw => by (have hSw2 := S5.facts hSw; clear hSw; go_simp; first | done | exact rfl)) (by assumption) ?_
          simp only [List.setIfInBounds_toArray, List.set_cons_zero, List.set_cons_succ]
          refine take_at (i := 2) 38 rfl rfl (by kernel_rfl) (by kernel_rfl) (by kernel_rfl) (fun _ _ _ h => h) (by rfl) (fun w hSw => by (have hSw2 := S5.facts hSw; clear hSw; go_simp; first | done | exact rfl)) (by assumption) ?_
          simp only [List.setIfInBounds_toArray, List.set_cons_zero, List.set_cons_succ]
          refine take_at (i := 3) 39 rfl rfl (by kernel_rfl) (by kernel_rfl) (by kernel_rfl) (fun _ _ _ h => h) (by rfl) (fun w hSw => by (have hSw2 := S5.facts hSw; clear hSw; go_simp; first | done | exact rfl)) (by assumption) ?_
          simp only [List.setIfInBounds_toArray, List.set_cons_zero, List.set_cons_succ]
          refine take_at (i := 4) 40 rfl rfl (by kernel_rfl) (by kernel_rfl) (by kernel_rfl) (fun _ _ _ h => h) (by rfl) (fun w hSw => by (have hSw2 := S5.facts hSw; clear hSw; go_simp; first | done | exact rfl)) (by assumption) ?_
          simp only [List.setIfInBounds_toArray, List.set_cons_zero, List.set_cons_succ]
          refine take_at (i := 5) 41 rfl rfl (by kernel_rfl) (by kernel_rfl) (by kernel_rfl) (fun _ _ _ h => h) (by rfl) (fun w hSw => by (have hSw2 := S5.facts hSw; clear hSw; go_simp; first | done | exact rfl)) (by assumption) ?_
          simp only [List.setIfInBounds_toArray, List.set_cons_zero, List.set_cons_succ]
          have hq1z : ¬ (q : Int) < 1 := by omega
          refine take_at (i := 6) (v := .slice (some ⟨gb, j * 2 + 2, none⟩) (q - 1) (cap - 1)) 42 rfl rfl (by kernel_rfl) (by kernel_rfl) (by kernel_rfl) (fun _ _ _ h => h) (by rfl) (fun w hSw => by (have hSw2 := S5.facts hSw; clear hSw; go_simp; first | done | exact rfl | simp_all | (simp; omega))) (by assumption) ?_
          simp only [List.setIfInBounds_toArray, List.set_cons_zero, List.set_cons_succ]
          refine one_value (i := 7) (v := .func (.func 26) #[.pointer (some ⟨v.p, 0, none⟩)] #[]) (w' := wr.drew) 8 (by kernel_rfl) rfl rfl (by rfl) (by kernel_rfl) (hS5 1) (fun _ => ?_)
          simp only [List.setIfInBounds_toArray, List.set_cons_zero, List.set_cons_succ]
          refine one_value (i := 8) (v := .slice (some ⟨gb, j * 2 + 2, none⟩) (q - 1) (cap - 1)) (w' := wr.drew) 5 (by kernel_rfl) rfl rfl (by rfl) (by kernel_rfl) (hS5 1) (fun _ => ?_)
          obtain ⟨ad2, had2⟩ : ∃ ad2 : Option Addr, ad2 = some ⟨gb, j * 2 + 2, none⟩ := ⟨_, rfl⟩
          obtain ⟨cap2, hcap2⟩ : ∃ cap2 : Nat, cap2 = cap - 1 := ⟨_, rfl⟩
          have Had2 : Hid (ad2 = some ⟨gb, j * 2 + 2, none⟩) := had2
          have Hcap2 : Hid (cap2 = cap - 1) := hcap2
          have Had : Hid (j + 1 < g.l.length → ad2 = some ⟨gb, (j + 1) * 2, none⟩) := fun h0 => by rw [had2, Nat.add_mul]
          have Hcap : Hid (pl - (j + 1) ≤ cap2) := by show _ ≤ _; have := HQQ.out; omega
          clear had2 hcap2
          refine wpAnyH_done (by kernel_rfl) ?_ _
          simp only [List.setIfInBounds_toArray, List.set_cons_zero, List.set_cons_succ]
          clear hS5
          by_cases h0 : se = 0
          · subst h0
            go_wp2_with (first
              | (go_at_call 38; refine (HAR.out _).mono ?_; rintro e w0 ⟨rfl, hw0⟩; subst w0)
              | (go_at_call 26; refine (HSY.out 1).mono ?_; rintro e w2 ⟨rfl, fp2, hd2, ho2, hs2⟩; have H2 : Hid (DiskAt (N + i + 1) w2 v.p (syD d' (A : Int)) fp2 ∧ Only fp' wr w2 ∧ ∀ k ∈ fp2, k ∈ fp' ∨ wr.heap.size ≤ k) := ⟨hd2, ho2, hs2⟩; clear hd2 ho2 hs2))
            go_roundg (len - (i + 1))
            case measure => omega
            case rel =>
              have hgo := TiI.go (j2 := j + 1) (ad2 := ad2) (cap2 := cap2) H.out H2.out.1 H2.out.2.1 H2.out.2.2 (HTI.out.trans (by simp)) (by rw [HPL.out]; exact hjlt) (fun h0 => ⟨gb, HPA.out, Had.out h0⟩) (by rw [HPL.out]; exact Hcap.out)
              exact ⟨i + 1, j + 1, ad2, cap2, _, _, by rw [Had2.out, Hcap2.out]; congr 1; have := HQQ.out; omega, by go_num, by omega, Nat.le_refl _, hgo⟩
          · have h0b : (se == 0) = false := by simpa using h0
            have HNE : Hid (¬ se = 0) := h0
            clear h0
            go_wp2_with (first
              | (go_at_call 38; refine (HAR.out _).mono ?_; rintro e w0 ⟨rfl, hw0⟩; subst w0)
              | (go_at_call 26; refine (HSY.out 1).mono ?_; rintro e w2 ⟨rfl, fp2, hd2, ho2, hs2⟩; have H2 : Hid (DiskAt (N + i + 1) w2 v.p (syD d' (A : Int)) fp2 ∧ Only fp' wr w2 ∧ ∀ k ∈ fp2, k ∈ fp' ∨ wr.heap.size ≤ k) := ⟨hd2, ho2, hs2⟩; clear hd2 ho2 hs2))
            go_ret
            exact TiI.bad H.out H2.out.1 H2.out.2.1 H2.out.2.2 (HTI.out.trans (if_neg HNE.out)) (by omega)
      · have hnt : ¬ (g.l.drop j).head?.map Prod.fst = some n := by
          rw [List.head?_drop]
          intro hh
          cases hgj : g.l[j]? with
          | none => rw [hgj] at hh; cases hh
          | some y => rw [hgj] at hh; simp at hh; exact ht ⟨y, hgj, hh⟩
        have HTI : Hid (tidyR g.d xs g.l = (if stepE d' = 0 then tidyR (frD d' ((4 * n + 1 : Nat) : Int)) (xs.drop (i + 1)) (g.l.drop j) else (stepE d', frD d' ((4 * n + 1 : Nat) : Int)))) := by
          show _ = _
          rw [H.out.rest, HXN.out, tidyR, if_neg hnt]
        obtain ⟨A, hA⟩ : ∃ A : Nat, 4 * n + 1 = A := ⟨_, rfl⟩
        have HAR : Hid (∀ W, Calls Tryz.prog 38 #[.int .u64 (n : Int)] W fun e w' => e = .returned (.int .u64 (A : Int)) ∧ w' = W) := fun W => hA ▸ areaOf_any n W hnn
        rw [hA] at HTI
        have HSY : Hid (Calls Tryz.prog 27 #[.pointer (some ⟨v.p, 0, none⟩), .int .u64 (A : Int)] wr fun e w' => e = .returned (.int .i64 (stepE d')) ∧ ∃ fp2, DiskAt (N + i + 1) w' v.p (frD d' (A : Int)) fp2 ∧ Only fp' wr w' ∧ ∀ k ∈ fp2, k ∈ fp' ∨ wr.heap.size ≤ k) := by
          refine (Free_any (N + i) v.p d' fp' (A : Int) wr H.out.log.disk (by omega)).mono ?_
          rintro e w' ⟨rfl, fp2, h1, h2, h3⟩
          exact ⟨rfl, fp2, h1, h2, fun k hk => .inl (h3 k hk)⟩
        obtain ⟨se, hse⟩ : ∃ se, stepE d' = se := ⟨_, rfl⟩
        rw [hse] at HSY HTI
        clear hse hA hn hnt
        have hcase : pl - j = 0 ∨ ∃ x, g.l[j]? = some x ∧ ¬ x.1 = n := by
          by_cases hj0 : j < pl
          · have hj1 : j < g.l.length := by rw [HPL.out]; exact hj0
            exact .inr ⟨_, List.getElem?_eq_getElem hj1, fun e => ht ⟨_, List.getElem?_eq_getElem hj1, e⟩⟩
          · exact .inl (by omega)
        clear ht
        rcases hcase with hq0 | ⟨x, hx, hxn⟩
        · have HQQ : Hid (pl - j = 0) := hq0
          rw [hq0]
          clear hq0
          by_cases h0 : se = 0
          · subst h0
            go_wp2_with (first
              | (go_at_call 38; refine (HAR.out _).mono ?_; rintro e w0 ⟨rfl, hw0⟩; subst w0)
              | (go_at_call 27; refine HSY.out.mono ?_; rintro e w2 ⟨rfl, fp2, hd2, ho2, hs2⟩; have H2 : Hid (DiskAt (N + i + 1) w2 v.p (frD d' (A : Int)) fp2 ∧ Only fp' wr w2 ∧ ∀ k ∈ fp2, k ∈ fp' ∨ wr.heap.size ≤ k) := ⟨hd2, ho2, hs2⟩; clear hd2 ho2 hs2))
            go_roundg (len - (i + 1))
            case measure => omega
            case rel =>
              have hgo := TiI.go H.out H2.out.1 H2.out.2.1 H2.out.2.2 (HTI.out.trans (by simp)) H.out.hj H.out.pos H.out.cap
              exact ⟨i + 1, j, _, cap, _, _, by rw [HQQ.out], by go_num, by omega, Nat.le_refl _, hgo⟩
          · have h0b : (se == 0) = false := by simpa using h0
            have HNE : Hid (¬ se = 0) := h0
            clear h0
            go_wp2_with (first
              | (go_at_call 38; refine (HAR.out _).mono ?_; rintro e w0 ⟨rfl, hw0⟩; subst w0)
              | (go_at_call 27; refine HSY.out.mono ?_; rintro e w2 ⟨rfl, fp2, hd2, ho2, hs2⟩; have H2 : Hid (DiskAt (N + i + 1) w2 v.p (frD d' (A : Int)) fp2 ∧ Only fp' wr w2 ∧ ∀ k ∈ fp2, k ∈ fp' ∨ wr.heap.size ≤ k) := ⟨hd2, ho2, hs2⟩; clear hd2 ho2 hs2))
            go_ret
            exact TiI.bad H.out H2.out.1 H2.out.2.1 H2.out.2.2 (HTI.out.trans (if_neg HNE.out)) (by omega)
        · obtain ⟨gb, rfl, hpa, ⟨t0, t1⟩⟩ := H.out.head hx
          have HPA : Hid (v.pa = some ⟨gb, 0, none⟩) := hpa
          have hjlt : j < pl := by have := (List.getElem?_eq_some_iff.1 hx).1; rw [HPL.out] at this; exact this
          obtain ⟨q, hq⟩ : ∃ q, pl - j = q := ⟨_, rfl⟩
          have HQQ : Hid (pl - j = q) := hq
          have hq0 : (0 : Int) < (q : Int) := by omega
          have hxnb : ((x.1 : Int) == (n : Int)) = false := by simpa using (by omega : ¬ (x.1 : Int) = (n : Int))
          rw [hq]
          clear hpa hq hx hxn hjlt
          by_cases h0 : se = 0
          · subst h0
            go_wp2_with (first
              | (go_at_call 38; refine (HAR.out _).mono ?_; rintro e w0 ⟨rfl, hw0⟩; subst w0)
              | (go_at_call 27; refine HSY.out.mono ?_; rintro e w2 ⟨rfl, fp2, hd2, ho2, hs2⟩; have H2 : Hid (DiskAt (N + i + 1) w2 v.p (frD d' (A : Int)) fp2 ∧ Only fp' wr w2 ∧ ∀ k ∈ fp2, k ∈ fp' ∨ wr.heap.size ≤ k) := ⟨hd2, ho2, hs2⟩; clear hd2 ho2 hs2))
            go_roundg (len - (i + 1))
            case measure => omega
            case rel =>
              have hgo := TiI.go H.out H2.out.1 H2.out.2.1 H2.out.2.2 (HTI.out.trans (by simp)) H.out.hj H.out.pos H.out.cap
              exact ⟨i + 1, j, _, cap, _, _, by rw [HQQ.out], by go_num, by omega, Nat.le_refl _, hgo⟩
          · have h0b : (se == 0) = false := by simpa using h0
            have HNE : Hid (¬ se = 0) := h0
            clear h0
            go_wp2_with (first
              | (go_at_call 38; refine (HAR.out _).mono ?_; rintro e w0 ⟨rfl, hw0⟩; subst w0)
              | (go_at_call 27; refine HSY.out.mono ?_; rintro e w2 ⟨rfl, fp2, hd2, ho2, hs2⟩; have H2 : Hid (DiskAt (N + i + 1) w2 v.p (frD d' (A : Int)) fp2 ∧ Only fp' wr w2 ∧ ∀ k ∈ fp2, k ∈ fp' ∨ wr.heap.size ≤ k) := ⟨hd2, ho2, hs2⟩; clear hd2 ho2 hs2))
            go_ret
            exact TiI.bad H.out H2.out.1 H2.out.2.1 H2.out.2.2 (HTI.out.trans (if_neg HNE.out)) (by omega)
    · have hie : i = len := by omega
      subst hie
      have HE : Hid (tidyG g xs = (0, { g with d := d' })) := by
        show _ = _
        unfold tidyG
        rw [H.out.rest, List.drop_eq_nil_of_le (Nat.le_of_eq HLEN.out), tidyR]
      go_wp2_with fail
      go_ret
      rw [HE.out]
      exact ⟨rfl, v, fp', s, H.out.log, rfl, H.out.only, H.out.sub⟩
end Go.Proofs.YthecngkdmnadoaaGreat
