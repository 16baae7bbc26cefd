/- A disk behind calls, and the document's. -/
import Derived.Test.YtpmmpdkeahmdiaaRefSyn
import Derived.Test.YtpmmpdkeahmdiaaScript
import Derived.Deep.RegionHeld3
namespace Go.Proofs.Ytpmmpdkeahmdiaa
open Go.RowKit
set_option maxRecDepth 100000

attribute [local go_sem ↓] exec_alloc_D exec_box_D exec_load_D exec_store_D
attribute [local go_sem] rdV_cells rdC_0 rdC_1 rdC_2 rdC_3 rdC_4 rdC_5
theorem row_xx {W w : World} {fp : List Nat} {y : Value} {xs : List Nat} (h : Row W.heap.size W y xs) (hb : Below W.heap.size W w) (hf : ∀ b ∈ fp, W.heap.size ≤ b) : RowX fp w y xs := by
  refine ⟨(h.below hb).mono hb.size, fun b off len cap e h0 hm => ?_⟩
  obtain ⟨ao, cap', rfl, _, _, hc⟩ := h
  obtain ⟨b', off', e', hN, _⟩ := hc h0
  simp only [Value.slice.injEq] at e
  rw [e'] at e
  simp only [Option.some.injEq, Addr.mk.injEq] at e
  have := hf b hm
  omega
theorem retD3 {fn : Func} {R : Ending → World → Prop} {a : Act} {w : World} {b t u u' : Nat} {r : RD} {ad : Option Addr} {n c : Nat} {x y : Value} (hf : fn.results = #[.tmp u, .cell t 27, .tmp u']) (hu : a.tmps[u]? = some x) (ht : a.tmps[t]? = some (.pointer (some ⟨b, 0, none⟩))) (hu' : a.tmps[u']? = some y)
    (hb : DskAt w b r (.slice ad n c)) (hd : a.defers = []) (hR : R (.returned (.tuple #[x, rdV r (.slice ad n c), y])) w) : bodyPost Try.prog fn R .ret a w := by
  obtain ⟨c0, c1, c2, c3, c4, c5, cz⟩ := six_cells hb
  refine bodyPost_ret ?_ hd hR
  unfold rdV
  simp [results, hf, ht, hu, hu', go_sem, c0, c1, c2, c3, c4, c5]
  try rfl
/-- The disk behind the calls of a script. -/
def behind (room : Int) (L : List OpC) : DS := L.foldl doD (newD room)
theorem behind_snoc (room : Int) {L : List OpC} {k : Nat} {o : OpC} (h : L[k]? = some o) : behind room (L.take (k + 1)) = doD (behind room (L.take k)) o := by
  rw [behind, List.take_add_one, h, Option.toList_some, List.foldl_append]; rfl
theorem new_ok (room : Int) : SecsOk (newD room).secs := fun s hs => by cases hs
theorem behind_ok (room : Int) (L : List OpC) : SecsOk (behind room L).secs := by
  unfold behind
  suffices h : ∀ (L : List OpC) (d : DS), SecsOk d.secs → SecsOk (L.foldl doD d).secs from h L _ (new_ok room)
  intro L
  induction L with
  | nil => intro d h; exact h
  | cons o r ih => intro d h; exact ih _ (doD_ok o h)
structure BegR (w : World) (n0 br p : Nat) (d : DS) (wr : World) (k : Nat) (fp : List Nat) (ad : Option Addr) (n c : Nat) : Prop where
  dk : DiskAt k wr p d fp
  ref : RefIs (fun b => b ≠ br ∧ b ≠ n0 ∧ b ∉ fp) wr (rdV (rdOf d) (.slice ad n c)) d
  rb : DskAt wr br (rdOf d) (.slice ad n c)
  r0 : DskAt wr n0 rd0 (.slice none 0 0)
  below : Below w.heap.size w wr
  fpb : ∀ b ∈ fp, w.heap.size ≤ b
  nfp : br ∉ fp ∧ n0 ∉ fp
  ge : w.heap.size ≤ br ∧ w.heap.size ≤ n0 ∧ n0 ≠ br
theorem BegR.alloc {w : World} {n0 br p : Nat} {d : DS} {wr : World} {k : Nat} {fp : List Nat} {ad : Option Addr} {n c : Nat} (h : BegR w n0 br p d wr k fp ad n c) (o : Obj) : BegR w n0 br p d (wr.alloc o) k fp ad n c :=
  ⟨h.dk.new o, h.ref.below ((Below.refl _ wr).alloc (Nat.le_refl _) o), h.rb.old o, h.r0.old o, h.below.alloc h.below.size o, h.fpb, h.nfp, h.ge⟩
/-- Behind the reference's call and the disk's. w1: ahead of the reference's; w2: behind it; w5: its disk is stored; w6: behind the disk's. -/
theorem BegR.next {w : World} {n0 br p bs : Nat} {d d' : DS} {w1 w2 w5 w6 : World} {k : Nat} {fp fp' : List Nat} {ad ad' : Option Addr} {n c n' c' : Nat} (h : BegR w n0 br p d w1 k fp ad n c)
    (hR : RefIs (fun b => (b ≠ br ∧ b ≠ n0 ∧ b ∉ fp) ∨ w1.heap.size ≤ b) w2 (rdV (rdOf d') (.slice ad' n' c')) d') (hb2 : Below w1.heap.size w1 w2) (hbs : w2.heap.size ≤ bs) (h5 : ∀ b, b ≠ br → b ≠ bs → b < w2.heap.size → w5.heap[b]? = w2.heap[b]?) (hs5 : w2.heap.size ≤ w5.heap.size) (hos : w5.os = w2.os) (htp : w5.tape = w2.tape) (hou : w5.output = w2.output)
    (hrb : DskAt w5 br (rdOf d') (.slice ad' n' c')) (hd6 : DiskAt (k + 1) w6 p d' fp') (ho6 : Only fp w5 w6) (hf6 : ∀ b ∈ fp', b ∈ fp ∨ w5.heap.size ≤ b) : BegR w n0 br p d' w6 (k + 1) fp' ad' n' c' := by
  have hs1 := hb2.size
  have lt1 := h.dk.lt
  have lbr := h.rb.lt
  have l0 := h.r0.lt
  have hst : ∀ b, b < w2.heap.size → b ≠ br → b ∉ fp → w6.heap[b]? = w2.heap[b]? := fun b hb h1 h2 => (ho6.block b (by omega) h2).trans (h5 b h1 (by omega) hb)
  have nf' : ∀ b, b < w5.heap.size → b ∉ fp → b ∉ fp' := fun b hb h1 h2 => by rcases hf6 b h2 with h | h; exact h1 h; omega
  refine ⟨hd6, ?_, ?_, ?_, ?_, ?_, ⟨nf' br (by omega) h.nfp.1, nf' n0 (by omega) h.nfp.2⟩, h.ge⟩
  · refine ((hR.mono fun b hb hP => (⟨hP, hb⟩ : ((b ≠ br ∧ b ≠ n0 ∧ b ∉ fp) ∨ w1.heap.size ≤ b) ∧ b < w2.heap.size)).same (by have := ho6.size; omega) fun b hb hl => ?_).mono fun b _ hb => ?_
    · rcases hb.1 with ⟨h1, h2, h3⟩ | hb
      · exact hst b hl h1 h3
      · exact hst b hl (by omega) (fun hm => by have := lt1 b hm; omega)
    · obtain ⟨hb, hl⟩ := hb
      rcases hb with ⟨h1, h2, h3⟩ | hb
      · exact ⟨h1, h2, nf' b (by omega) h3⟩
      · exact ⟨by omega, by omega, nf' b (by omega) fun hm => by have := lt1 b hm; omega⟩
  · exact (ho6.block br (by omega) h.nfp.1).trans hrb
  · exact (hst n0 (by omega) h.ge.2.2 h.nfp.2).trans ((hb2.block n0 l0).trans h.r0)
  · have e1 : Below w.heap.size w w2 := h.below.trans (hb2.mono h.below.size)
    have e2 : Below w.heap.size w2 w5 := ⟨hos, htp, hou, hs5, fun b hb => h5 b (by have := h.ge.1; omega) (by have := e1.size; omega) (by have := e1.size; omega)⟩
    exact (e1.trans e2).trans (ho6.below (by have := e1.size; omega) h.fpb)
  · intro b hb
    rcases hf6 b hb with h1 | h1
    · exact h.fpb b h1
    · have := h.below.size; omega
def BegSays (room : Int) (L : List OpC) (w : World) (e : Ending) (w' : World) : Prop :=
  ∃ p fp rv, e = .returned (.tuple #[.pointer (some ⟨p, 0, none⟩), rv, .bool true]) ∧ DiskAt L.length w' p (behind room L) fp ∧ RefIs (fun b => b ∉ fp) w' rv (behind room L) ∧ Below w.heap.size w w' ∧ ∀ b ∈ fp, w.heap.size ≤ b
set_option maxHeartbeats 1000000 in
theorem begun_any (room : Int) (v : Value) (w : World) (L : List OpC) (hS : Script w v L) (h1 : -9223372036854775808 ≤ room) (h2 : room ≤ 9223372036854775807) (hL : L.length ≤ 1048576) :
    Calls Try.prog 11 #[.int .i64 room, v] w (BegSays room L w) := by
  obtain ⟨ao, cap, rfl, hcap, _, hcs⟩ := hS
  have HCS : Hid (0 < L.length → ∃ b off, ao = some ⟨b, off, none⟩ ∧ b < w.heap.size ∧ ∀ (i : Nat) (o : OpC), L[i]? = some o → o.fits ∧ ∃ bv,
    w.cell? ⟨b, off + i * 4, none⟩ = some (.int .i64 o.kind) ∧ w.cell? ⟨b, off + i * 4 + 1, none⟩ = some (.int .u64 o.area) ∧ w.cell? ⟨b, off + i * 4 + 2, none⟩ = some (.int .i64 o.n) ∧ w.cell? ⟨b, off + i * 4 + 3, none⟩ = some bv ∧ Row w.heap.size w bv o.xs) := hcs
  clear hcs
  go_enter Try.func11, Try.ntmps11
  go_wp2_with fail
  obtain ⟨w0, hw0⟩ : ∃ w0, w.alloc (.cells (rdC rd0 (.slice none 0 0)) 27) = w0 := ⟨_, rfl⟩
  rw [hw0]
  have hs0 : w0.heap.size = w.heap.size + 1 := by rw [← hw0]; simp
  have D0 : Hid (DskAt w0 w.heap.size rd0 (.slice none 0 0)) := hw0 ▸ DskAt.new w rd0 _
  have B0 : Hid (Below w.heap.size w w0) := hw0 ▸ (Below.refl _ w).alloc (Nat.le_refl _) _
  clear hw0
  refine (New_any room w0 h1 h2).mono ?_
  rintro e w1 ⟨p, fp, rfl, hd1, hb1, hf1⟩
  have D1 : Hid (DskAt w1 w.heap.size rd0 (.slice none 0 0)) := D0.out.below (by omega) hb1
  have B1 : Hid (Below w.heap.size w w1) := B0.out.trans (hb1.mono (by omega))
  have HD1 : Hid (DiskAt 0 w1 p (newD room) fp) := hd1
  have HF1 : Hid (∀ b ∈ fp, w.heap.size + 1 ≤ b) := fun b hb => by have := hf1 b hb; omega
  have hs1 := hb1.size
  clear hd1 hb1 hf1
  go_wp2_with fail
  refine (refNew_any room w1).mono ?_
  rintro e w2 ⟨rfl, hb2⟩
  rw [← rdOf_new]
  have D2 : Hid (DskAt w2 w.heap.size rd0 (.slice none 0 0)) := D1.out.below (by omega) hb2
  have B2 : Hid (Below w.heap.size w w2) := B1.out.trans (hb2.mono (by omega))
  have HD2 : Hid (DiskAt 0 w2 p (newD room) fp) := HD1.out.below hb2
  have hs2 := hb2.size
  have hst3 := storeD_at (r := rdOf (newD room)) (ad := none) (n := 0) (c := 0) (DskAt.new w2 rd0 (.slice none 0 0))
  obtain ⟨w3, hw3⟩ : ∃ w3, setD (w2.alloc (.cells (rdC rd0 (.slice none 0 0)) 27)) w2.heap.size (rdOf (newD room)) (.slice none 0 0) = w3 := ⟨_, rfl⟩
  rw [hw3] at hst3
  have hBR : BegR w w.heap.size w2.heap.size p (newD room) w3 0 fp none 0 0 := by
    have hlt := HD2.out.lt
    have hsD := D2.out.lt
    have hst : ∀ b, b < w2.heap.size → w3.heap[b]? = w2.heap[b]? := fun b hb => by rw [← hw3, setD_far _ _ _ _ _ (by omega), alloc_old _ _ hb]
    refine ⟨HD2.out.same fun b hb => hst b (hlt b hb), ⟨_, [], rfl, SecRow.nil _ _, rfl⟩, hw3 ▸ (DskAt.new w2 rd0 (.slice none 0 0)).set, (hst _ hsD).trans D2.out, ?_, fun b hb => by have := HF1.out b hb; omega, ⟨fun hm => by have := hlt _ hm; omega, fun hm => by have := HF1.out _ hm; omega⟩, ⟨B2.out.size, Nat.le_refl _, by omega⟩⟩
    rw [← hw3]
    exact setD_below (B2.out.alloc B2.out.size _) B2.out.size _ _
  have HBR : Hid (BegR w w.heap.size w2.heap.size p (newD room) w3 0 fp none 0 0) := hBR
  clear hb2 hw3 hBR D0 B0 D1 B1 HD1
  go_wp2_with fail
  refine (alive_any w3).mono ?_
  rintro e w4 ⟨rfl, hb4⟩
  have HB4 : Hid (BegR w w.heap.size w2.heap.size p (newD room) w4 0 fp none 0 0) := by
    have h := HBR.out
    have hs := h.below.size
    exact ⟨h.dk.below hb4, h.ref.below hb4, h.rb.below h.rb.lt hb4, h.r0.below h.r0.lt hb4, h.below.trans (hb4.mono hs), h.fpb, h.nfp, h.ge⟩
  clear hb4 HBR hst3
  go_wp2_with fail
  go_loopw [26] (fun v wr => ∃ (k : Nat) (fp : List Nat) (ad : Option Addr) (n c : Nat), v = .int .i64 k ∧ k ≤ L.length ∧ BegR w w.heap.size w2.heap.size p (behind room (L.take k)) wr k fp ad n c) (fun v _ => L.length - (intOf v).toNat)
  case atStart => exact ⟨0, fp, none, 0, 0, rfl, Nat.zero_le _, HB4.out⟩
  case round =>
    clear HB4 HD2 HF1 D2 B2
    obtain ⟨k, fp, ad, n, c, rfl, hk, hI⟩ := hrel
    have HI : Hid (BegR w w.heap.size w2.heap.size p (behind room (L.take k)) wr k fp ad n c) := hI
    clear hI
    by_cases hlt : k < L.length
    · obtain ⟨b, off, rfl, hbw, hel⟩ := HCS.out (by omega)
      obtain ⟨o, ho⟩ : ∃ o, L[k]? = some o := ⟨_, List.getElem?_eq_getElem hlt⟩
      obtain ⟨hfit, bv, c0, c1, c2, c3, hrow⟩ := hel k o ho
      obtain ⟨ao2, cap2, rfl, hcap2⟩ := hrow.shape
      have HFit : Hid o.fits := hfit
      have HRow : Hid (Row w.heap.size w (.slice ao2 o.xs.length cap2) o.xs) := hrow
      have hBw := HI.out.below
      have d0 := (hBw.cell (p := ⟨b, off + k * 4, none⟩) hbw).trans c0
      have d1 := (hBw.cell (p := ⟨b, off + k * 4 + 1, none⟩) hbw).trans c1
      have d2 := (hBw.cell (p := ⟨b, off + k * 4 + 2, none⟩) hbw).trans c2
      have d3 := (hBw.cell (p := ⟨b, off + k * 4 + 3, none⟩) hbw).trans c3
      have hlt' : (k : Int) < (L.length : Int) := by omega
      have hsz := hBw.size
      have HBS : Hid (behind room (L.take (k + 1)) = doD (behind room (L.take k)) o) := behind_snoc room ho
      obtain ⟨dd, hdd⟩ : ∃ dd, behind room (L.take k) = dd := ⟨_, rfl⟩
      rw [hdd] at HI HBS
      obtain ⟨wx, hwx⟩ : ∃ wx, wr.alloc (.cells #[.int .i64 o.kind, .int .u64 o.area, .int .i64 o.n, .slice ao2 o.xs.length cap2] 38) = wx := ⟨_, rfl⟩
      have HX : Hid (BegR w w.heap.size w2.heap.size p dd wx k fp ad n c) := hwx ▸ HI.out.alloc _
      have hox : wx.heap[wr.heap.size]? = some (.cells #[.int .i64 o.kind, .int .u64 o.area, .int .i64 o.n, .slice ao2 o.xs.length cap2] 38 (0, 0)) := hwx ▸ alloc_new _ _
      have HOX : Hid (wx.heap[wr.heap.size]? = some (.cells #[.int .i64 o.kind, .int .u64 o.area, .int .i64 o.n, .slice ao2 o.xs.length cap2] 38 (0, 0))) := hox
      have hsx : wx.heap.size = wr.heap.size + 1 := by rw [← hwx]; simp
      have hldx := loadD_at HX.out.rb
      rw [← hwx] at hldx
      have HWX : Hid (wr.alloc (.cells #[.int .i64 o.kind, .int .u64 o.area, .int .i64 o.n, .slice ao2 o.xs.length cap2] 38) = wx) := hwx
      clear hel c0 c1 c2 c3 hfit hrow ho hBw hdd hwx hox
      go_wp2_with fail
      rw [HWX.out]
      clear hldx HWX d0 d1 d2 d3
      refine (refDo_any (fun b => b ≠ w2.heap.size ∧ b ≠ w.heap.size ∧ b ∉ fp) k w.heap.size dd _ o _ wx HX.out.ref HX.out.dk.ok (by omega) HFit.out (HRow.out.below HX.out.below) HX.out.below.size).mono ?_
      rintro e w3' ⟨v3, rfl, hR3, hb3⟩
      obtain ⟨ad3, n3, c3, rfl⟩ := hR3.form
      obtain ⟨dq, hdq⟩ : ∃ dq, doD dd o = dq := ⟨_, rfl⟩
      rw [hdq] at hR3 HBS
      rw [hdq]
      have HDQ : Hid (doD dd o = dq) := hdq
      have HR3 : Hid (RefIs (fun b => (b ≠ w2.heap.size ∧ b ≠ w.heap.size ∧ b ∉ fp) ∨ wx.heap.size ≤ b) w3' (rdV (rdOf dq) (.slice ad3 n3 c3)) dq) := hR3
      have HB3 : Hid (Below wx.heap.size wx w3') := hb3
      have hs3 := hb3.size
      obtain ⟨eq, heq⟩ : ∃ eq, doE dd o = eq := ⟨_, rfl⟩
      rw [heq]
      have HEQ : Hid (doE dd o = eq) := heq
      have hst4 := storeD_at (r := rdOf dq) (ad := ad3) (n := n3) (c := c3) (DskAt.new w3' rd0 (.slice none 0 0))
      obtain ⟨w4', hw4'⟩ : ∃ w4', setD (w3'.alloc (.cells (rdC rd0 (.slice none 0 0)) 27)) w3'.heap.size (rdOf dq) (.slice ad3 n3 c3) = w4' := ⟨_, rfl⟩
      rw [hw4'] at hst4
      have hS4 : DskAt w4' w3'.heap.size (rdOf dq) (.slice ad3 n3 c3) := hw4' ▸ (DskAt.new w3' rd0 (.slice none 0 0)).set
      have hf4 : ∀ b, b < w3'.heap.size → w4'.heap[b]? = w3'.heap[b]? := fun b hb => by rw [← hw4', setD_far _ _ _ _ _ (by omega), alloc_old _ _ hb]
      have hbr4 : DskAt w4' w2.heap.size (rdOf dd) (.slice ad n c) := (hf4 _ (by have := HX.out.rb.lt; omega)).trans (HX.out.rb.below HX.out.rb.lt hb3)
      have hz4 : w4'.heap.size = w3'.heap.size + 1 := by rw [← hw4', setD_size]; simp
      have hB4 := hw4' ▸ setD_below ((Below.refl 0 w3').alloc (Nat.zero_le _) (.cells (rdC rd0 (.slice none 0 0)) 27)) (Nat.zero_le w3'.heap.size) (rdOf dq) (.slice ad3 n3 c3)
      have hld4 := loadD_at hS4
      have hst5 := storeD_at (r := rdOf dq) (ad := ad3) (n := n3) (c := c3) hbr4
      obtain ⟨w5', hw5'⟩ : ∃ w5', setD w4' w2.heap.size (rdOf dq) (.slice ad3 n3 c3) = w5' := ⟨_, rfl⟩
      rw [hw5'] at hst5
      have hrb5 : DskAt w5' w2.heap.size (rdOf dq) (.slice ad3 n3 c3) := hw5' ▸ hbr4.set
      have H5 : Hid (∀ b, b ≠ w2.heap.size → b ≠ w3'.heap.size → b < w3'.heap.size → w5'.heap[b]? = w3'.heap[b]?) := fun b h1 h2 h3 => by rw [← hw5', setD_far _ _ _ _ _ h1]; exact hf4 b h3
      have hz5 : w5'.heap.size = w3'.heap.size + 1 := by rw [← hw5', setD_size]; exact hz4
      have HO5 : Hid (w5'.os = w3'.os ∧ w5'.tape = w3'.tape ∧ w5'.output = w3'.output) := by
        have hB5 := hw5' ▸ setD_below hB4 (Nat.zero_le w2.heap.size) (rdOf dq) (.slice ad3 n3 c3)
        exact ⟨hB5.os, hB5.tape, hB5.output⟩
      have HRB5 : Hid (DskAt w5' w2.heap.size (rdOf dq) (.slice ad3 n3 c3)) := hrb5
      have hlbr := HX.out.rb.lt
      have ho5 : w5'.heap[wr.heap.size]? = some (.cells #[.int .i64 o.kind, .int .u64 o.area, .int .i64 o.n, .slice ao2 o.xs.length cap2] 38 (0, 0)) := by
        rw [H5.out _ (by have := HI.out.rb.lt; omega) (by omega) (by omega), hb3.block _ (by omega)]
        exact HOX.out
      obtain ⟨q0, q1, q2, q3, _⟩ := four_cells ho5
      have HD5 : Hid (DiskAt k w5' p dd fp) := (HX.out.dk.below hb3).same fun b hb => by
        have hl := HX.out.dk.lt b hb
        exact H5.out b (fun e => HX.out.nfp.1 (e ▸ hb)) (by omega) (by omega)
      have HB5 : Hid (Below w.heap.size w w5') := by
        have e1 : Below w.heap.size w w3' := HX.out.below.trans (hb3.mono HX.out.below.size)
        exact e1.trans ⟨HO5.out.1, HO5.out.2.1, HO5.out.2.2, by omega, fun b hb => H5.out b (by have := HX.out.ge.1; omega) (by have := e1.size; omega) (by have := e1.size; omega)⟩
      clear hR3 hb3 hdq heq hw4' hw5' hS4 hf4 hbr4 hB4 hrb5 ho5
      go_wp2_with fail
      refine (does_any k p dd fp o (.slice ao2 o.xs.length cap2) w5' HD5.out HFit.out (row_xx HRow.out HB5.out HX.out.fpb) (by omega)).mono ?_
      rintro e w6 ⟨rfl, fp6, hd6, ho6, hf6⟩
      rw [HEQ.out]
      rw [HDQ.out] at hd6
      have HN : Hid (BegR w w.heap.size w2.heap.size p dq w6 (k + 1) fp6 ad3 n3 c3) := HX.out.next HR3.out HB3.out (Nat.le_refl _) H5.out (by omega) HO5.out.1 HO5.out.2.1 HO5.out.2.2 HRB5.out hd6 ho6 hf6
      clear hd6 ho6 hf6 q0 q1 q2 q3 hld4 hst4 hst5
      go_wp2_with fail
      go_roundw
      case rel => exact ⟨k + 1, fp6, ad3, n3, c3, by go_num, by omega, by rw [HBS.out]; exact HN.out⟩
      case measure => simp [intOf]; omega
    · have hxn : ¬ ((k : Int) < (L.length : Int)) := by omega
      have hkk : k = L.length := by omega
      have R0 : DskAt wr.drew w.heap.size rd0 (.slice none 0 0) := HI.out.r0
      have RB : DskAt wr.drew w2.heap.size (rdOf (behind room (L.take k))) (.slice ad n c) := HI.out.rb
      obtain ⟨dd, hdd⟩ : ∃ dd, behind room (L.take k) = dd := ⟨_, rfl⟩
      rw [hdd] at RB HI
      have hldd := loadD_at RB
      have hstd := storeD_at (r := rdOf dd) (ad := ad) (n := n) (c := c) R0
      obtain ⟨w7, hw7⟩ : ∃ w7, setD wr.drew w.heap.size (rdOf dd) (.slice ad n c) = w7 := ⟨_, rfl⟩
      rw [hw7] at hstd
      have HR7 : Hid (DskAt w7 w.heap.size (rdOf dd) (.slice ad n c)) := hw7 ▸ R0.set
      have HE : Hid (BegSays room L w (.returned (.tuple #[.pointer (some ⟨p, 0, none⟩), rdV (rdOf dd) (.slice ad n c), .bool true])) w7) := by
        have h := HI.out
        have hdL : behind room L = dd := by rw [← hdd, hkk, List.take_length]
        have hst : ∀ b, b ≠ w.heap.size → w7.heap[b]? = wr.heap[b]? := fun b hb => by rw [← hw7, setD_far _ _ _ _ _ hb]; rfl
        have hsz : w7.heap.size = wr.heap.size := by rw [← hw7, setD_size]; rfl
        refine ⟨p, fp, _, rfl, ?_, ?_, ?_, h.fpb⟩
        · rw [hdL, ← hkk]
          exact h.dk.same fun b hb => hst b fun e => h.nfp.2 (e ▸ hb)
        · rw [hdL]
          exact (h.ref.same (by omega) fun b hb _ => hst b hb.2.1).mono fun b _ hb => hb.2.2
        · rw [← hw7]
          exact setD_below h.below.drew (Nat.le_refl _) _ _
      clear hw7 R0 RB hdd
      go_wp2_with fail
      go_region
      all_goals (go_wp2_with fail)
      all_goals exact retD3 rfl rfl rfl rfl HR7.out rfl HE.out
end Go.Proofs.Ytpmmpdkeahmdiaa
