/- disk.copyFresh, disk.Clone: the walks. -/
import Derived.Test.YtpmmpdkeahmdiaaCopyF
namespace Go.Proofs.Ytpmmpdkeahmdiaa
open Go.RowKit Go.Shelf
set_option maxRecDepth 100000

/-- What the copy has behind the areas 'done' and the sectors 'dn' of the area k. -/
def cf2 (done : MF) (k : Int) (dn : List (Int × FS)) (a n : Int) : Option (List (List Nat)) := if a = k then (mget n dn).map FS.vs else (fsGet done a n).map FS.vs
theorem fsGet_snoc {done : MF} {k : Int} {x : Nat × List (Int × FS)} (hk : k ∉ keys done) (a n : Int) : fsGet (done ++ [(k, x)]) a n = if a = k then mget n x.2 else fsGet done a n := by
  unfold fsGet
  rw [← mput_new hk, mget_mput]
  split <;> rfl
theorem mgetF_snoc {α : Type} {dn : List (Int × α)} {k : Int} {x : α} (hk : k ∉ keys dn) (n : Int) : mget n (dn ++ [(k, x)]) = if n = k then some x else mget n dn := by
  rw [← mput_new hk, mget_mput]
/-- What both loops keep. -/
structure OutF (w : World) (q lb0 mb fb r : Nat) (L0 : List (Int × Nat × List (Int × List Nat))) (F : MF) (wr : World) (done M : MF) : Prop where
  rng : Ranges .u64 inV wr (some fb) r F done
  cp : CopyF w q lb0 mb L0 wr M (fun a n => (fsGet done a n).map FS.vs)
  rn : r ∉ mb :: Sh.fblocks M
structure InnF (w : World) (q lb0 mb fb r r2 xb : Nat) (L0 : List (Int × Nat × List (Int × List Nat))) (F : MF) (done : MF) (k : Int) (xm : List (Int × FS)) (wr : World) (dn : List (Int × FS)) (M : MF) : Prop where
  rng : Ranges .u64 inV wr (some fb) r F (done ++ [(k, xb, xm)])
  inn : Ranges .i64 fsV wr (some xb) r2 xm dn
  cp : CopyF w q lb0 mb L0 wr M (cf2 done k dn)
  rn : r ∉ mb :: Sh.fblocks M
  rn2 : r2 ∉ mb :: Sh.fblocks M
theorem InnF.next {w : World} {q lb0 mb fb r r2 xb : Nat} {L0 : List (Int × Nat × List (Int × List Nat))} {F done : MF} {k : Int} {xm : List (Int × FS)} {wr w' W2 W3 : World} {dn : List (Int × FS)} {M : MF} {n : Int} {x x' : FS} (h : InnF w q lb0 mb fb r r2 xb L0 F done k xm wr dn M)
    (hfb : fb < w.heap.size) (hxb : xb < w.heap.size) (hr2 : w.heap.size ≤ r2) (hrr : r ≠ r2) (hl : ∀ b ∈ lb0 :: Sh.lblocks L0, b < w.heap.size) (hn : n ∉ keys dn)
    (hin2 : Ranges .i64 fsV w' (some xb) r2 xm (dn ++ [(n, x)])) (ho : OneD r2 wr w') (hb2 : Below w'.heap.size w' W2) (hx : x'.ok W2) (hxv : x'.vs = x.vs) (hg : w'.heap.size ≤ x'.g) (hput : PutPost fsV k n x' mb M W2 W3) :
    ∃ M', InnF w q lb0 mb fb r r2 xb L0 F done k xm W3 (dn ++ [(n, x)]) M' := by
  have hcp := h.cp.one ho hr2 h.rn2 hl
  obtain ⟨M', k1, k2, k3⟩ := hcp.put hb2 hx hg hput
  have hrl := h.rng.lt
  have hsz := ho.size
  have hr2l : r2 < w'.heap.size := hin2.lt
  have hws := hcp.below.size
  have old : ∀ b, b < w'.heap.size → b ∉ mb :: Sh.fblocks M → W3.heap[b]? = w'.heap[b]? := k3
  have src : ∀ b, b < w.heap.size → b ∉ mb :: Sh.fblocks M := fun b hb hm => by have := hcp.new b hm; omega
  refine ⟨M', ?_, ?_, ?_, ?_, ?_⟩
  · refine h.rng.same ((old r (by omega) h.rn).trans (ho.block r hrr)) fun b hb => ?_
    cases hb
    exact (old fb (by omega) (src fb hfb)).trans (ho.block fb (by omega))
  · refine hin2.same (old r2 hr2l h.rn2) fun b hb => ?_
    cases hb
    exact old xb (by omega) (src xb hxb)
  · refine k1.ext fun a' n' => ?_
    unfold cf2
    rw [mgetF_snoc hn]
    by_cases e : a' = k
    · by_cases e2 : n' = n
      · rw [if_pos ⟨e, e2⟩, if_pos e, if_pos e2, hxv]; rfl
      · rw [if_neg (fun hh => e2 hh.2), if_pos e, if_pos e, if_neg e2]
    · rw [if_neg (fun hh => e hh.1), if_neg e, if_neg e]
  · intro hm
    rcases k2 r hm with hm | hm
    · exact h.rn hm
    · omega
  · intro hm
    rcases k2 r2 hm with hm | hm
    · exact h.rn2 hm
    · omega
set_option maxHeartbeats 1000000 in
theorem copyFresh_any (q lb0 fb : Nat) (L0 : List (Int × Nat × List (Int × List Nat))) (F : MF) (w : World) (hf : MapAt .u64 inV w fb F) (hfi : ∀ p ∈ F, MapAt .i64 fsV w p.2.1 p.2.2 ∧ (∀ s ∈ p.2.2, s.2.ok w) ∧ p.2.2 ≠ []) (hN : ∀ p ∈ F, ∀ s ∈ p.2.2, s.2.vs.length ≤ 1099511627776)
    (hl0 : MapAt .u64 inV w lb0 L0) (hli : ∀ p ∈ L0, MapAt .i64 verV w p.2.1 p.2.2 ∧ (∀ s ∈ p.2.2, s.2.length = 64) ∧ p.2.2 ≠ []) (hq : q < w.heap.size) (hnd : (q :: lb0 :: Sh.lblocks L0).Nodup) :
    Calls Try.prog 46 #[.map (some fb)] w fun e w' => ∃ mb M, e = .returned (.map (some mb)) ∧ CopyF w q lb0 mb L0 w' M (fun a n => (fsGet F a n).map FS.vs) := by
  have HF : Hid (MapAt .u64 inV w fb F) := hf
  have HFI : Hid (∀ p ∈ F, MapAt .i64 fsV w p.2.1 p.2.2 ∧ (∀ s ∈ p.2.2, s.2.ok w) ∧ p.2.2 ≠ []) := hfi
  have HN : Hid (∀ p ∈ F, ∀ s ∈ p.2.2, s.2.vs.length ≤ 1099511627776) := hN
  have hfb := hf.lt
  have HLB : Hid (∀ b ∈ lb0 :: Sh.lblocks L0, b < w.heap.size) := fun b hb => by
    rcases List.mem_cons.1 hb with rfl | hb
    · exact hl0.lt
    · obtain ⟨p, hp, rfl⟩ := List.mem_map.1 hb
      exact (hli p hp).1.lt
  have hmm := @run_makeMap Try.prog
  have HR : Hid (∃ ob, (Instr.range 76 (.map (some fb))).run Try.prog (w.alloc (.map #[] 0)) = .ok (.pointer (some ⟨(w.alloc (.map #[] 0)).heap.size, 0, none⟩)) ((w.alloc (.map #[] 0)).alloc ob) ∧ Ranges .u64 inV ((w.alloc (.map #[] 0)).alloc ob) (some fb) (w.alloc (.map #[] 0)).heap.size F []) := (hf.same (alloc_old w _ hfb)).range Try.underlying76
  have HC0 : Hid (∀ ob, CopyF w q lb0 w.heap.size L0 ((w.alloc (.map #[] 0)).alloc ob) [] (fun a n => (fsGet [] a n).map FS.vs)) := fun ob => by
    have hB2 : Below w.heap.size w ((w.alloc (.map #[] 0)).alloc ob) := ((Below.refl _ w).alloc (Nat.le_refl _) _).alloc (by simp) _
    refine ⟨⟨hl0.same (hB2.block _ hl0.lt), (MapAt.new .u64 inV w).same (alloc_old _ _ (by simp)), fun p hp => ⟨(hli p hp).1.same (hB2.block _ (hli p hp).1.lt), (hli p hp).2⟩, fun p hp => (by cases hp)⟩, ?_, hq, fun a n => rfl, fun b hb => ?_, hB2⟩
    · obtain ⟨p1, p2⟩ := List.nodup_cons.1 hnd
      obtain ⟨p3, p4⟩ := List.nodup_cons.1 p2
      have far : ∀ b ∈ lb0 :: Sh.lblocks L0, b ≠ w.heap.size := fun b hb => by have := HLB.out b hb; omega
      simp only [Sh.blocks, Sh.fblocks, List.flatMap_nil, List.append_nil, List.nodup_cons, List.mem_cons, not_or] at p1 p3 ⊢
      exact ⟨⟨p1.1, by omega, p1.2⟩, ⟨far _ (.head _), p3⟩, fun hm => far _ (.tail _ hm) rfl, p4⟩
    · simp [Sh.fblocks] at hb; omega
  clear hf hfi hN hl0 hli hnd
  go_enter Try.func46, Try.ntmps46
  go_wp2_with (at_range; refine wpList_range_at HR.out rfl _ rfl rfl ?_)
  intro ob hrg
  have H0 : Hid (OutF w q lb0 w.heap.size fb (w.heap.size + 1) L0 F ((w.alloc (.map #[] 0)).alloc ob) [] []) := ⟨by simpa using hrg, HC0.out ob, by simp [Sh.fblocks]⟩
  clear hrg
  go_wp2_with fail
  go_loopw [] (fun wr => ∃ done M, OutF w q lb0 w.heap.size fb (w.heap.size + 1) L0 F wr done M) (fun wr => F.length - seenAt wr (w.heap.size + 1))
  case atStart => exact ⟨[], [], H0.out⟩
  case round =>
    clear H0
    obtain ⟨done, M, hI⟩ := hrel
    have HIV : Hid (OutF w q lb0 w.heap.size fb (w.heap.size + 1) L0 F wr done M) := hI
    clear hI
    go_wp2_with (at_next; refine wpList_next_at HIV.out.rng rfl _ rfl rfl ?_ ?_)
    · intro hall
      have HALL : Hid (AllIn F done) := hall
      clear hall
      go_wp2_with fail
      go_ret
      have h := HIV.out
      obtain ⟨_, _, hdn, hdm⟩ := h.rng.seen
      refine ⟨_, M, rfl, h.cp.ext fun a n => ?_⟩
      have e1 : mget a done = mget a F := mget_same hdn HF.out.nodup (fun p => ⟨hdm p, HALL.out p⟩) a
      unfold fsGet
      rw [e1]
    · intro k xb xm w1 hm hk hr2 ho hen
      have hmx := HFI.out _ hm
      have hxb : xb < w.heap.size := hmx.1.lt
      have hcp1 := HIV.out.cp.one ho (by omega) HIV.out.rn HLB.out
      have HMX : Hid (MapAt .i64 fsV w xb xm ∧ (∀ s ∈ xm, s.2.ok w) ∧ ∀ s ∈ xm, s.2.vs.length ≤ 1099511627776) := ⟨hmx.1, hmx.2.1, HN.out _ hm⟩
      have HCP1 : Hid (CopyF w q lb0 w.heap.size L0 w1 M (fun a n => (fsGet done a n).map FS.vs)) := hcp1
      have HR2 : Hid (Ranges .u64 inV w1 (some fb) (w.heap.size + 1) F (done ++ [(k, xb, xm)])) := hr2
      have HKK : Hid (k ∉ keys done) := hk
      have hen' : (Instr.entry (.pointer (some ⟨w.heap.size + 1, 0, none⟩))).run Try.prog w1 = .ok (.tuple #[.int .u64 k, .map (some xb)]) w1 := hen
      have hsn0 := HIV.out.rng.seen
      have hsn := hr2.seen
      have hRI : ∃ ob, (Instr.range 82 (.map (some xb))).run Try.prog w1 = .ok (.pointer (some ⟨w1.heap.size, 0, none⟩)) (w1.alloc ob) ∧ Ranges .i64 fsV (w1.alloc ob) (some xb) w1.heap.size xm [] := (hmx.1.same (hcp1.below.block xb hxb)).range Try.underlying82
      have HRI : Hid (∃ ob, (Instr.range 82 (.map (some xb))).run Try.prog w1 = .ok (.pointer (some ⟨w1.heap.size, 0, none⟩)) (w1.alloc ob) ∧ Ranges .i64 fsV (w1.alloc ob) (some xb) w1.heap.size xm []) := hRI
      have hr1l := hr2.lt
      try rw [show inV (xb, xm) = .map (some xb) from rfl]
      clear hen hmx hr2 ho hk hm hcp1 hRI
      go_wp2_with (at_range; refine wpList_range_at HRI.out rfl _ rfl rfl ?_)
      intro ob hrg
      have HI0 : Hid (InnF w q lb0 w.heap.size fb (w.heap.size + 1) w1.heap.size xb L0 F done k xm (w1.alloc ob) [] M) := by
        have hbA : Below w1.heap.size w1 (w1.alloc ob) := (Below.refl _ w1).alloc (Nat.le_refl _) _
        refine ⟨HR2.out.same (hbA.block _ hr1l) (fun b hb => by cases hb; exact hbA.block _ (by omega)), hrg, (HCP1.out.grow hbA).ext fun a n => ?_, HIV.out.rn, fun hm => ?_⟩
        · unfold cf2
          by_cases e : a = k
          · rw [if_pos e, e]
            unfold fsGet
            rw [mget_none.2 HKK.out]
            rfl
          · rw [if_neg e]
        · have h1 := HCP1.out.held.lt w1.heap.size (by
            rcases List.mem_cons.1 hm with hm | hm
            · rw [hm]; exact .tail _ (.head _)
            · exact .tail _ (.tail _ (List.mem_append_right _ hm)))
          omega
      clear hrg
      go_wp2_with fail
      go_loopw [] (fun wr => ∃ dn M, InnF w q lb0 w.heap.size fb (w.heap.size + 1) w1.heap.size xb L0 F done k xm wr dn M) (fun wr => xm.length - seenAt wr w1.heap.size)
      case atStart => exact ⟨[], M, HI0.out⟩
      case round =>
        clear HI0
        obtain ⟨dn, M', hI⟩ := hrel
        have HIN : Hid (InnF w q lb0 w.heap.size fb (w.heap.size + 1) w1.heap.size xb L0 F done k xm wr dn M') := hI
        clear hI
        go_wp2_with (at_next; refine wpList_next_at HIN.out.inn rfl _ rfl rfl ?_ ?_)
        · intro hall
          have HALL : Hid (AllIn xm dn) := hall
          clear hall
          have hsn2 := HIN.out.rng.seen
          go_wp2_with fail
          go_roundw
          case rel =>
            have h := HIN.out
            obtain ⟨_, _, hdn, hdm⟩ := h.inn.seen
            refine ⟨_, M', h.rng, h.cp.ext fun a n => ?_, h.rn⟩
            have e1 : ∀ n, mget n dn = mget n xm := fun n => mget_same hdn HMX.out.1.nodup (fun p => ⟨hdm p, HALL.out p⟩) n
            unfold cf2
            rw [fsGet_snoc HKK.out]
            by_cases e : a = k
            · rw [if_pos e, if_pos e, e1]
            · rw [if_neg e, if_neg e]
          case measure =>
            rw [hsn2.1, hsn0.1]
            have := hsn2.2.1
            rw [List.length_append, List.length_singleton] at this ⊢
            omega
        · intro n x w5 hm hk hr2 ho hen
          have hws := HIN.out.cp.below.size
          have hbw5 : Below w.heap.size w w5 := HIN.out.cp.below.trans ⟨ho.os, ho.tape, ho.output, Nat.le_of_eq ho.size.symm, fun b hb => ho.block b (by omega)⟩
          have hxok := HMX.out.2.1 _ hm
          have HXO : Hid (x.ok w5 ∧ x.vs.length ≤ 1099511627776) := ⟨hxok.same (hbw5.block _ hxok.lt), HMX.out.2.2 _ hm⟩
          have HR3 : Hid (Ranges .i64 fsV w5 (some xb) w1.heap.size xm (dn ++ [(n, x)])) := hr2
          have HO : Hid (OneD w1.heap.size wr w5) := ho
          have HK2 : Hid (n ∉ keys dn) := hk
          have hsi0 := HIN.out.inn.seen
          have hsi := hr2.seen
          obtain ⟨xv, hxv⟩ : ∃ xv, fsV x = xv := ⟨_, rfl⟩
          have HXV : Hid (fsV x = xv) := hxv
          have hen' : (Instr.entry (.pointer (some ⟨w1.heap.size, 0, none⟩))).run Try.prog w5 = .ok (.tuple #[.int .i64 n, xv]) w5 := hxv ▸ hen
          rw [hxv]
          clear hen hxok hbw5 hr2 ho hk hm hxv
          go_wp2_with fail
          rw [← HXV.out]
          refine (cloneF_any x w5 HXO.out.1 HXO.out.2).mono ?_
          rintro e w6 ⟨x', rfl, hxv, hxo, hxg, hb6⟩
          have hs5 := HO.out.size
          have hcp5 := HIN.out.cp.one HO.out (by omega) HIN.out.rn2 HLB.out
          have HT : Hid (Two fsV w6 w.heap.size M') := two_of_held (a := k) (n := n) (sh := ⟨lb0, w.heap.size, L0, M'⟩) hcp5.held hcp5.nd fun k hk _ => hb6.block k hk
          have HX6 : Hid (x'.vs = x.vs ∧ x'.ok w6 ∧ w5.heap.size ≤ x'.g ∧ Below w5.heap.size w5 w6) := ⟨hxv, hxo, hxg, hb6⟩
          obtain ⟨xv', hxv'⟩ : ∃ xv, fsV x' = xv := ⟨_, rfl⟩
          have HXV' : Hid (fsV x' = xv') := hxv'
          rw [hxv']
          clear hxv hxo hxg hb6 hcp5 hxv' hs5
          go_wp2_with fail
          rw [← HXV'.out]
          refine (putF_any w.heap.size M' k n x' w6 HT.out).mono ?_
          rintro e w7 ⟨rfl, hput⟩
          obtain ⟨M2, hN2⟩ := HIN.out.next (x := x) hfb hxb (by omega) (by omega) HLB.out HK2.out HR3.out HO.out HX6.out.2.2.2 HX6.out.2.1 HX6.out.1 HX6.out.2.2.1 hput
          have HN2 : Hid (InnF w q lb0 w.heap.size fb (w.heap.size + 1) w1.heap.size xb L0 F done k xm w7 (dn ++ [(n, x)]) M2) := hN2
          clear hput hN2
          go_wp2_with fail
          go_roundw
          case rel => exact ⟨_, _, HN2.out⟩
          case measure =>
            rw [HN2.out.inn.seen.1, hsi0.1]
            have := hsi.2.1
            rw [List.length_append, List.length_singleton] at this ⊢
            omega
end Go.Proofs.Ytpmmpdkeahmdiaa
