import Derived.Test.YtkdhdehobdfakaaGreatDoorRows
import Derived.Test.YtkdhdehobdfakaaGreatDoorJ0
import Derived.ProofKit
import Derived.OpenShut
import Derived.Deep.QuietTactic
import Derived.BigQuiet
import Derived.Test.YtkdhdehobdfakaaGreatDoorJ1
import Derived.WalkSmall
import Derived.Shelf.SlSortCmp.KitK
import Derived.Deep.LoopGhost
set_option maxRecDepth 100000
set_option maxHeartbeats 8000000
namespace Go.Proofs.YtkdhdehobdfakaaGreatDoor
section
open Go.RowKit Nums
theorem zDj(r:Int)(w:World):Calls Tryz.prog 89 #[.int .i32 r] w fun e w'=>e = .returned (.bool (isR r))∧w'=w:=by
 by_cases h0:0≤r
 · by_cases h1:r<1114112
   · by_cases h2:r<55296
     · go_enter Tryz.func89,Tryz.ntmps89
       go_wp2;go_ret;exact⟨zCh (by first|(rw[zE3 (by omega)])|(rw[zEe (by omega)])),rfl⟩
     · by_cases h3:57343<r
       all_goals
        go_enter Tryz.func89,Tryz.ntmps89;go_wp2;go_ret;exact⟨zCh (by first|(rw[zE3 (by omega)])|(rw[zEe (by omega)])),rfl⟩
   · go_enter Tryz.func89,Tryz.ntmps89
     go_wp2;go_ret;exact⟨zCh (by first|(rw[zE3 (by omega)])|(rw[zEe (by omega)])),rfl⟩
 · go_enter Tryz.func89,Tryz.ntmps89
   go_wp2;go_ret;exact⟨zCh (by first|(rw[zE3 (by omega)])|(rw[zEe (by omega)])),rfl⟩
theorem zGu(r:Int)(w:World):Calls Tryz.prog 53 #[.int .i32 r] w fun e w'=>e = .returned (.bool (vis r))∧w'=w:=by
 by_cases h0:32<r
 all_goals
  go_enter Tryz.func53,Tryz.ntmps53;go_wp2;go_ret;exact⟨zCh (by rw[Bool.eq_iff_iff];simp[vis];try omega),rfl⟩
theorem zC0(b:Int)(w:World):Calls Tryz.prog 88 #[.int .u8 b] w fun e w'=>e = .returned (.int .i64 (ldSz b))∧w'=w:=by
 by_cases h0:b<128
 · go_enter Tryz.func88,Tryz.ntmps88
   go_wp2;go_ret;exact⟨zBx (by unfold ldSz;repeat' split;all_goals omega),rfl⟩
 by_cases h1:b<192
 · go_enter Tryz.func88,Tryz.ntmps88
   go_wp2;go_ret;exact⟨zBx (by unfold ldSz;repeat' split;all_goals omega),rfl⟩
 by_cases h2:b<224
 · go_enter Tryz.func88,Tryz.ntmps88
   go_wp2;go_ret;exact⟨zBx (by unfold ldSz;repeat' split;all_goals omega),rfl⟩
 by_cases h3:b<240
 · go_enter Tryz.func88,Tryz.ntmps88
   go_wp2;go_ret;exact⟨zBx (by unfold ldSz;repeat' split;all_goals omega),rfl⟩
 by_cases h4:b<248
 · go_enter Tryz.func88,Tryz.ntmps88
   go_wp2;go_ret;exact⟨zBx (by unfold ldSz;repeat' split;all_goals omega),rfl⟩
 · go_enter Tryz.func88,Tryz.ntmps88
   go_wp2;go_ret;exact⟨zBx (by unfold ldSz;repeat' split;all_goals omega),rfl⟩
def Tabs(w:World):Prop:=
 w.cell? ⟨0,2,none⟩=some (.int .u8 192)∧w.cell? ⟨0,3,none⟩=some (.int .u8 224)∧w.cell? ⟨0,4,none⟩=some (.int .u8 240) ∧
 w.cell? ⟨0,1,none⟩=some (.int .u8 0) ∧
 w.cell? ⟨1,1,none⟩=some (.int .i32 0)∧w.cell? ⟨1,2,none⟩=some (.int .i32 128)∧w.cell? ⟨1,3,none⟩=some (.int .i32 2048)∧w.cell? ⟨1,4,none⟩=some (.int .i32 65536)
theorem zK0(s:ByteArray)(w:World)(h0:0<s.size)(h1:ldSz ((s[0]'h0).toNat:Int)=0):
 Calls Tryz.prog 52 #[.string s] w fun e w'=>e = .returned (.tuple #[.int .i32 0,.int .i64 0])∧∃n,w'=w.drewN n:=by
 go_enter Tryz.func52,Tryz.ntmps52;go_wp2_with (go_at_call 88;refine(zC0 _ _).mono ?_;rintro e w' ⟨rfl,rfl⟩;rw[h1]);go_ret2;exact⟨rfl,0,rfl⟩
theorem zI4(s:ByteArray)(w:World)(n:Nat)(h0:0<s.size)(hn2:2≤n)(hn4:n≤4)(h1:ldSz ((s[0]'h0).toNat:Int)=n)(hs:s.size<n):
 Calls Tryz.prog 52 #[.string s] w fun e w'=>e = .returned (.tuple #[.int .i32 0,.int .i64 0])∧∃n,w'=w.drewN n:=by
 go_enter Tryz.func52,Tryz.ntmps52;go_wp2_with (go_at_call 88;refine(zC0 _ _).mono ?_;rintro e w' ⟨rfl,rfl⟩;rw[h1]);go_ret2;exact⟨rfl,0,rfl⟩
theorem zI5(s:ByteArray)(w:World)(ht:Tabs w)(h0:0<s.size)(hm:s.size≤9223372036854775807)(h1:((s[0]'h0).toNat:Int)<128):
 Calls Tryz.prog 52 #[.string s] w fun e w'=>e = .returned (.tuple #[.int .i32 ((s[0]'h0).toNat:Int),.int .i64 1])∧∃n,w'=w.drewN n:=by
 obtain⟨c2,c3,c4,c1,t1,t2,t3,t4⟩:=ht
 have hl : ldSz ((s[0]'h0).toNat : Int) = 1 := by unfold ldSz; repeat' split
                                                  all_goals omega
 go_enter Tryz.func52,Tryz.ntmps52;go_wp2_with (go_at_call 88;refine(zC0 _ _).mono ?_;rintro e w' ⟨rfl,rfl⟩;rw[hl]);go_quiet (fail);go_wp2;refine wp_loop_rounds 1 ?_;rw[rounds_succ];go_wp2_with (go_at_call 89;refine(zDj _ _).mono ?_;rintro e w' ⟨rfl,rfl⟩;rw[zE3 (by omega)]);go_ret2;exact⟨rfl,_,rfl⟩
theorem zK1(s:ByteArray)(w:World)(ht:Tabs w)(n:Nat)(h0:0<s.size)(hm:s.size≤9223372036854775807)(hn2:2≤n)(hn4:n≤4)(hl:ldSz ((s[0]'h0).toNat:Int)=n)(hs:n≤s.size):
 Calls Tryz.prog 52 #[.string s] w fun e w'=>e = .returned (.tuple #[.int .i32 (rd s.data.toList).1,.int .i64 (rd s.data.toList).2])∧∃n,w'=w.drewN n:=by
 obtain⟨c2,c3,c4,c1,t1,t2,t3,t4⟩:=ht;have hb0:ldOf n≤((s[0]'h0).toNat:Int)∧((s[0]'h0).toNat:Int)-ldOf n<32:=lead_bd hn2 hn4 hl;have hcn:w.cell? ⟨0,n,none⟩=some (.int .u8 (ldOf n)):=by
  obtain rfl|rfl|rfl:n=2∨n=3∨n=4:=by omega
  · exact c2
  · exact c3
  · exact c4
 have htn:w.cell? ⟨1,n,none⟩=some (.int .i32 (low n)):=by
  obtain rfl|rfl|rfl:n=2∨n=3∨n=4:=by omega
  · exact t2
  · exact t3
  · exact t4
 have hld:=ldOf_bd n;clear c2 c3 c4 c1 t1 t2 t3 t4;have hn0:((n:Int)==0)=false:=beq_eq_false_iff_ne.2 (by omega);have hns:decide (s.size<n)=false:=by simpa using hs
 have HL:Hid (ldSz ((s[0]'h0).toNat:Int)=n):=hl;clear hl;have hbt:∀i (h:i<s.size),((s[i]'h).toNat:Int)=bt s.data.toList i:=zN2 s;have HB:Hid (∀i (h:i<s.size),((s[i]'h).toNat:Int)=bt s.data.toList i):=hbt;clear hbt;go_enter Tryz.func52,Tryz.ntmps52;go_wp2_with (go_at_call 88;refine(zC0 _ _).mono ?_;rintro e w' ⟨rfl,rfl⟩;rw[HL.out]);go_quiet (fail);go_wp2;have HA0:0≤bt s.data.toList 0-ldOf n∧bt s.data.toList 0-ldOf n<32:=by have:=HB.out 0 h0;omega
 have HL':Hid (ldSz (bt s.data.toList 0)=n):=by have e:=HL.out;rw[HB.out 0 h0]at e;exact e
 go_loop [5,6] (fun r i=>∃k:Nat,1≤k∧k≤n∧i = .int .i64 k∧r = .int .i32 (acc (ldOf n) s.data.toList k)∧zKn s.data.toList k) (fun _ i=>n-(intOf i).toNat)
 case atStart=>exact⟨1,by omega,by omega,rfl,by rw[acc1,HB.out 0 h0],zUn _⟩
 case round=>
  obtain⟨k,hk1,hkn,rfl,rfl,htl⟩:=hrel
  have hfail:Hid (∀k,1≤k→k<n→(bt s.data.toList k<128∨192≤bt s.data.toList k)→rd s.data.toList=(0,0)):=fun k a b c=>
   rd_no hn2 hn4 HL'.out (fun h=>zUo a b c h.2.1)
  by_cases hlt:k<n
  · have hks:k<s.size:=by omega
    have ha:=zYp HA0 k (by omega) htl;by_cases hA:((s[k]'hks).toNat:Int)<128
    · go_wp2
      go_ret2;refine⟨?_,_,rfl⟩;rw[hfail.out k hk1 hlt (by rw[←HB.out k hks];omega)];rfl
    · by_cases hC:192≤((s[k]'hks).toNat:Int)
      · go_wp2
        go_ret2;refine⟨?_,_,rfl⟩;rw[hfail.out k hk1 hlt (by rw[←HB.out k hks];omega)];rfl
      · go_wp2
        go_round
        (case rel=>exact⟨k+1,by omega,by omega,by go_num,by rw[acc_next _ _ hk1,←HB.out k hks],zSk htl (by rw[←HB.out k hks];omega)⟩);case measure=>simp[intOf];omega
  · obtain rfl:k=n:=by omega
    have ha:=acc_bd HA0 k hn4 htl;by_cases hlo:acc (ldOf k) s.data.toList k<low k
    · go_wp2
      go_ret2;refine⟨?_,_,rfl⟩;rw[rd_no hn2 hn4 HL'.out (fun h=>by have:=h.2.2.1;omega)];rfl
    · by_cases hR:isR (acc (ldOf k) s.data.toList k)=true
      · have HR:Hid (isR (acc (ldOf k) s.data.toList k)=true):=hR
        clear hR;have HF:Hid (rd s.data.toList=(acc (ldOf k) s.data.toList k,k)):=zQy hn2 hn4 HL'.out (by rw[zAk];exact hs) htl (by omega) HR.out;go_wp2_with (go_at_call 89;refine(zDj _ _).mono ?_;rintro e w' ⟨rfl,rfl⟩;rw[HR.out]);go_ret2;refine⟨?_,_,rfl⟩;rw[HF.out];rfl
      · have HR:Hid (isR (acc (ldOf k) s.data.toList k)=false):=(Bool.not_eq_true _).mp hR
        clear hR;have HF:Hid (rd s.data.toList=(0,0)):=rd_no hn2 hn4 HL'.out (fun h=>by have:=h.2.2.2;rw[HR.out]at this;cases this);go_wp2_with (go_at_call 89;refine(zDj _ _).mono ?_;rintro e w' ⟨rfl,rfl⟩;rw[HR.out]);go_ret2;refine⟨?_,_,rfl⟩;rw[HF.out];rfl
theorem zBr(s:ByteArray)(w:World)(ht:Tabs w)(h0:0<s.size)(hm:s.size≤9223372036854775807):
 Calls Tryz.prog 52 #[.string s] w fun e w'=>e = .returned (.tuple #[.int .i32 (rd s.data.toList).1,.int .i64 (rd s.data.toList).2])∧∃n,w'=w.drewN n:=by
 have hb:=zN2 s 0 h0;have hbd:=zYf s.data.toList 0;by_cases h1:bt s.data.toList 0<128
 · rw[rd_one h1,←hb]
   exact zI5 s w ht h0 hm (by omega)
 by_cases h2:bt s.data.toList 0<192∨248≤bt s.data.toList 0
 · rw[rd_none (by omega) h2]
   exact zK0 s w h0 (by rw [hb]; unfold ldSz; repeat' split
                        all_goals omega)
 obtain⟨n,hn2,hn4,hl⟩:∃n:Nat,2≤n∧n≤4∧ldSz (bt s.data.toList 0)=n:=by
  by_cases a:bt s.data.toList 0<224
  · exact ⟨2, by omega, by omega, by unfold ldSz; repeat' split
                                     all_goals omega⟩
  by_cases b:bt s.data.toList 0<240
  · exact ⟨3, by omega, by omega, by unfold ldSz; repeat' split
                                     all_goals omega⟩
  · exact ⟨4, by omega, by omega, by unfold ldSz; repeat' split
                                     all_goals omega⟩
 by_cases hs:n≤s.size
 · exact zK1 s w ht n h0 hm hn2 hn4 (by rw[hb];exact hl) hs
 · rw[rd_no hn2 hn4 hl (fun h=>hs (by have:=h.1;rw[zAk]at this;exact this))]
   exact zI4 s w n h0 hn2 hn4 (by rw[hb];exact hl) (by omega)
theorem zAn{w:World}{b o:Nat}{v:Value}(h:w.cell? ⟨b,o,none⟩=some v):b<w.heap.size:=World.block_lt_of_cell? w ⟨b,o,none⟩ h
theorem Tabs.below{w w':World}(h:Tabs w)(hb:Below w.heap.size w w'):Tabs w':=by
 obtain⟨c2,c3,c4,c1,t1,t2,t3,t4⟩:=h;refine⟨?_,?_,?_,?_,?_,?_,?_,?_⟩
 all_goals (first
  |exact(hb.cell (p:=⟨0,2,none⟩) (zAn c2)).trans c2
  |exact(hb.cell (p:=⟨0,3,none⟩) (zAn c3)).trans c3
  |exact(hb.cell (p:=⟨0,4,none⟩) (zAn c4)).trans c4
  |exact(hb.cell (p:=⟨0,1,none⟩) (zAn c1)).trans c1
  |exact(hb.cell (p:=⟨1,1,none⟩) (zAn t1)).trans t1
  |exact(hb.cell (p:=⟨1,2,none⟩) (zAn t2)).trans t2
  |exact(hb.cell (p:=⟨1,3,none⟩) (zAn t3)).trans t3
  |exact(hb.cell (p:=⟨1,4,none⟩) (zAn t4)).trans t4)
theorem Tabs.drewN{w:World}(h:Tabs w)(n:Nat):Tabs (w.drewN n):=h
theorem zEr{s:ByteArray}(h:0<s.size):s.data.toList≠[]:=by
 intro e;have:=zAk s;rw[e]at this;simp at this;omega
theorem zE9{s:ByteArray}(h:¬0<s.size):s.data.toList=[]:=List.length_eq_zero_iff.1 (by rw[zAk];omega)
theorem zCa(s:ByteArray)(w:World)(ht:Tabs w)(hm:s.size≤9223372036854775807):
 Calls Tryz.prog 28 #[.string s] w fun e w'=>e = .returned (.bool (zAq s.data.toList))∧∃n,w'=w.drewN n:=by
 go_enter Tryz.func28,Tryz.ntmps28;go_wp2
 go_loopw [0,3] (fun t c wr=>∃(m:ByteArray) (pre:List Int),t = .string m∧m.size≤s.size∧c = .int .i64 pre.length∧pre.length≤24∧pre.all vis=true∧zA0 s.data.toList m.data.toList pre∧∃n,wr=w.drewN n)
  (fun t _ _=>zTa t)
 case atStart=>exact⟨s,[],rfl,Nat.le_refl _,rfl,by simp,rfl,zGt _,0,rfl⟩
 case round=>
  obtain⟨m,pre,rfl,hms,rfl,hp,hv,hL,nw,rfl⟩:=hrel;have HL:Hid (zA0 s.data.toList m.data.toList pre):=hL;have HV:Hid (pre.all vis=true):=hv;clear hL hv;by_cases h0:0<m.size
  · have hne:=zEr h0
    have hbd:=zSz hne;rw[zAk]at hbd;have HNE:Hid (m.data.toList≠[]):=hne;clear hne;generalize hr:rd m.data.toList=q at hbd;obtain⟨r,n⟩:=q;have HR:Hid (rd m.data.toList=(r,n)):=hr;clear hr;simp only at hbd;by_cases hn:n=0
    · subst hn
      go_wp2_with (go_at_call 52;refine(zBr _ _ (ht.drewN _) h0 (by omega)).mono ?_;rintro e w' ⟨rfl,n2,rfl⟩;rw[HR.out]);go_ret;refine⟨?_,_,by first|rfl|rw[World.drewN_drewN]⟩;rw[zUd HL.out HNE.out (by rw[HR.out])];rfl
    have hn0:((n:Int)==0)=false:=beq_eq_false_iff_ne.2 (by omega);cases hvv:vis r
    · have HVV:Hid (vis r=false):=hvv
      clear hvv
      go_wp2_with (first
       |(go_at_call 52;refine(zBr _ _ (ht.drewN _) h0 (by omega)).mono ?_;rintro e w' ⟨rfl,n2,rfl⟩;rw[HR.out])
       |(go_at_call 53;refine(zGu _ _).mono ?_;rintro e w' ⟨rfl,rfl⟩;rw[HVV.out]))
      go_ret;refine⟨?_,_,by first|rfl|rw[World.drewN_drewN]⟩;rw[zOm HL.out HNE.out (by rw[HR.out];exact hn) (by rw[HR.out];exact HVV.out)];rfl
    · have HVV:Hid (vis r=true):=hvv
      clear hvv;by_cases hc:pre.length=24
      · have HC:Hid (pre.length=24):=hc
        have hc':((pre.length:Int)==24)=true:=beq_iff_eq.2 (by omega);clear hc
        go_wp2_with (first
         |(go_at_call 52;refine(zBr _ _ (ht.drewN _) h0 (by omega)).mono ?_;rintro e w' ⟨rfl,n2,rfl⟩;rw[HR.out])
         |(go_at_call 53;refine(zGu _ _).mono ?_;rintro e w' ⟨rfl,rfl⟩;rw[HVV.out]))
        go_ret;refine⟨?_,_,by first|rfl|rw[World.drewN_drewN]⟩;rw[zUe HL.out HNE.out (by rw[HR.out];exact hn) HC.out];rfl
      · have hc':((pre.length:Int)==24)=false:=beq_eq_false_iff_ne.2 (by omega)
        go_wp2_with (first
         |(go_at_call 52;refine(zBr _ _ (ht.drewN _) h0 (by omega)).mono ?_;rintro e w' ⟨rfl,n2,rfl⟩;rw[HR.out])
         |(go_at_call 53;refine(zGu _ _).mono ?_;rintro e w' ⟨rfl,rfl⟩;rw[HVV.out]))
        go_roundw
        case rel=>
         refine⟨m.extract n m.size,pre++[r],rfl,by rw[zBs];omega,by simp,by simp;omega,?_,zO1 HL.out HNE.out HR.out hn,_,by first|rfl|rw[World.drewN_drewN]⟩;have:=HV.out;have h2:=HVV.out;simp[this,h2]
        case measure=>simp only[zTa];rw[zBs];omega
  · have HN:Hid (m.data.toList=[]):=zE9 h0
    have HF:Hid (zAq s.data.toList=decide (0<pre.length)):=word_end (by have:=HL.out;rw[HN.out]at this;exact this) hp HV.out;go_wp2;go_ret;refine⟨?_,_,rfl⟩;rw[HF.out];rfl
end
section
open Go.RowKit Go.Shelf Go.Lib Go.Sort Pm
abbrev Pr:=ByteArray×Int
def encP(x:Pr):List Value:=[.string x.1,.int .i64 x.2]
def valP(x:Pr):Value := .agg #[.string x.1,.int .i64 x.2]
def zAa(a b:ByteArray):Bool:=Op.bytesLess a.data.toList b.data.toList
theorem bl_irr:∀a:List UInt8,Op.bytesLess a a=false
 |[]=>by rw[Op.bytesLess.eq_1]
 |a::x=>by rw[Op.bytesLess.eq_3,bl_irr x];simp
theorem bl_nil(a:List UInt8):Op.bytesLess a []=false:=by rw[Op.bytesLess.eq_1]
theorem bl_tr:∀a b c:List UInt8,Op.bytesLess a b=true→Op.bytesLess b c=true→Op.bytesLess a c=true
 |_,[],_,h,_=>by rw[bl_nil]at h;cases h
 |_,_::_,[],_,h=>by rw[bl_nil]at h;cases h
 |[],_::_,_::_,_,_=>by rw[Op.bytesLess.eq_2]
 |a::x,b::y,c::z,h1,h2=>by
  rw[Op.bytesLess.eq_3]at h1 h2 ⊢;simp only[Bool.or_eq_true,Bool.and_eq_true,decide_eq_true_eq,beq_iff_eq]at h1 h2 ⊢;rcases h1 with h1|⟨rfl,h1⟩
  · rcases h2 with h2|⟨rfl,h2⟩
    · exact .inl (UInt8.lt_trans h1 h2)
    · exact .inl h1
  · rcases h2 with h2|⟨rfl,h2⟩
    · exact .inl h2
    · exact .inr ⟨rfl,bl_tr x y z h1 h2⟩
theorem bl_tot:∀a b:List UInt8,Op.bytesLess a b=false→Op.bytesLess b a=false→a=b
 |[],[],_,_=>rfl
 |[],_::_,h,_=>by rw[Op.bytesLess.eq_2]at h;cases h
 |_::_,[],_,h=>by rw[Op.bytesLess.eq_2]at h;cases h
 |a::x,b::y,h1,h2=>by
  rw[Op.bytesLess.eq_3]at h1 h2;simp only[Bool.or_eq_false_iff,Bool.and_eq_false_iff,decide_eq_false_iff_not,beq_eq_false_iff_ne]at h1 h2;have e:a=b:=UInt8.le_antisymm (UInt8.not_lt.1 h2.1) (UInt8.not_lt.1 h1.1);subst e;rw[bl_tot x y (h1.2.resolve_left (fun h=>h rfl)) (h2.2.resolve_left (fun h=>h rfl))]
theorem zYj{a b:ByteArray}(h:a.data.toList=b.data.toList):a=b:=by
 cases a;cases b;simp only[ByteArray.mk.injEq]at h ⊢;exact Array.toList_inj.1 h
theorem lessB_sto:STO zAa:=⟨fun _=>bl_irr _,fun _ _ _=>bl_tr _ _ _,fun _ _ h1 h2=>zYj (bl_tot _ _ h1 h2)⟩
theorem zFm(a b:ByteArray):(a.toList==b.toList)=decide (a=b):=by
 rw[Bool.eq_iff_iff,beq_iff_eq,decide_eq_true_iff,ByteArray.toList_eq,ByteArray.toList_eq];exact⟨zYj,fun h=>by rw[h]⟩
theorem zDe(a b:ByteArray)(w:World):Calls Tryz.prog 72 #[.string a,.string b] w fun e w'=>e = .returned (.bool (zAa a b))∧w'=w:=by
 have HL:Hid (Op.bytesLess a.toList b.toList=zAa a b):=by
  show Op.bytesLess _ _=_;rw[ByteArray.toList_eq,ByteArray.toList_eq];rfl
 go_enter Tryz.func72,Tryz.ntmps72;go_wp2;go_ret;exact⟨by rw[HL.out];rfl,rfl⟩
def cfP(x y:Pr):Int:=if zAa x.1 y.1 then -1 else if zAa y.1 x.1 then 1 else 0
theorem cfP_lt(x y:Pr):ltOf cfP x y=plt zAa x y:=by
 unfold ltOf cfP plt;cases zAa x.1 y.1<;>cases zAa y.1 x.1<;>rfl
theorem cfP_ltf:ltOf cfP=plt zAa:=funext fun x=>funext fun y=>cfP_lt x y
theorem byWord_any(x y:Pr)(W:World):Calls Tryz.prog 112 #[.agg #[.string x.1,.int .i64 x.2],.agg #[.string y.1,.int .i64 y.2]] W fun e w'=>e = .returned (.int .i64 (cfP x y))∧∃q os',w'=grow (W.drewN q) os':=by
 have h1:=fun W'=>zDe x.1 y.1 W'
 have h2:=fun W'=>zDe y.1 x.1 W'
 have HC:Hid (cfP x y=if zAa x.1 y.1 then -1 else if zAa y.1 x.1 then 1 else 0):=rfl;generalize zAa x.1 y.1=b1 at h1 HC;generalize zAa y.1 x.1=b2 at h2 HC;cases b1
 · cases b2
   all_goals
    go_enter Tryz.func112,Tryz.ntmps112;go_wp2_with (first|(go_at_call 72;refine(h1 _).mono ?_;rintro e w' ⟨rfl,rfl⟩)|(go_at_call 72;refine(h2 _).mono ?_;rintro e w' ⟨rfl,rfl⟩));go_ret;exact⟨by rw[HC.out];rfl,0,_,by rw[alloc_eq_grow,alloc_eq_grow,grow_grow];rfl⟩
 · go_enter Tryz.func112,Tryz.ntmps112
   go_wp2_with (go_at_call 72;refine(h1 _).mono ?_;rintro e w' ⟨rfl,rfl⟩);go_ret;exact⟨by rw[HC.out];rfl,0,_,by rw[alloc_eq_grow,alloc_eq_grow,grow_grow];rfl⟩
theorem byWord_lays(blk off size:Nat)(w:World):CmpLays Tryz.prog 112 #[] encP 2 cfP blk off size w:=
 fun _ _ _ _ x y=>byWord_any x y _
def loadP(P:Program)(x:Value)(w:World):Result Value:=(Instr.loadAt 75 x).run P w
def storeP(P:Program)(x y:Value)(w:World):Result Unit:=(Instr.storeAt 75 x y).run P w
section
variable (ρ:Operand→Value) (x y:Operand) (dst:Option Tmp) (ty:TypeId) (pos:String) (af:Array Edge) (g:Option (Nat×Bool)) (w:World)
theorem exec_load_P:(execOp ρ ⟨dst,.load 75 x,ty,pos,af,g⟩).run Tryz.prog w=(loadP Tryz.prog (ρ x) w).andThen (fun v w' => .ok (.value v) w'):=by
 simp only[execOp,Sem.run_bind,loadP,Sem.run_pure]
theorem exec_store_P:(execOp ρ ⟨dst,.store 75 x y,ty,pos,af,g⟩).run Tryz.prog w=(storeP Tryz.prog (ρ x) (ρ y) w).andThen (fun _ w' => .ok .skip w'):=by
 simp only[execOp,Sem.run_bind,storeP,Sem.run_pure]
end
theorem loadP_at{w:World}{b o:Nat}{x:Pr}(h0:w.cell? ⟨b,o,none⟩=some (.string x.1))(h1:w.cell? ⟨b,o+1,none⟩=some (.int .i64 x.2)):loadP Tryz.prog (.pointer (some ⟨b,o,none⟩)) w = .ok (valP x) w:=by
 unfold loadP valP;simp[go_sem,h0,h1];try rfl
theorem storeP_at{w:World}{b o:Nat}{x:Pr}{u v:Value}(h0:w.cell? ⟨b,o,none⟩=some u)(h1:w.cell? ⟨b,o+1,none⟩=some v)(f0:w.frozen? ⟨b,o,none⟩=false)(f1:w.frozen? ⟨b,o+1,none⟩=false):storeP Tryz.prog (.pointer (some ⟨b,o,none⟩)) (valP x) w = .ok () (w.setCells b o (encP x)):=by
 unfold storeP valP;simp[go_sem,h0,h1,f0,f1,encP,World.setCells];try rfl
theorem cellP0{w:World}{blk off:Nat}{d:Array Pr}(h:HoldsK encP 2 w blk off d){i:Nat}(hi:i<d.size):w.cell? ⟨blk,off+i*2,none⟩=some (.string d[i]!.1)∧w.frozen? ⟨blk,off+i*2,none⟩=false:=h.cell (c:=0) hi (by omega)
theorem cellP1{w:World}{blk off:Nat}{d:Array Pr}(h:HoldsK encP 2 w blk off d){i:Nat}(hi:i<d.size):w.cell? ⟨blk,off+i*2+1,none⟩=some (.int .i64 d[i]!.2)∧w.frozen? ⟨blk,off+i*2+1,none⟩=false:=h.cell (c:=1) hi (by omega)
theorem encP_k(x:Pr):(encP x).length=2:=rfl
theorem encP_one(x:Pr):∀v∈encP x,v.oneCell'=true:=by intro v hv;simp[encP]at hv;rcases hv with rfl|rfl<;>rfl
structure RowP(w0:World)(blk off n:Nat):Prop where
 ex:∃d0:Array Pr,d0.size=n∧RowK encP 2 w0 blk off d0
 big:n<4611686018427387904
section
variable {w0 W:World} {blk off n:Nat} {d:Array Pr}
theorem RowP.holds(R:RowP w0 blk off n)(S:SWK encP 2 w0 blk off d W)(hs:d.size=n):HoldsK encP 2 W blk off d:=by
 obtain⟨⟨d0,e,K⟩,_⟩:=R;exact S.holds K.hblk K.hH (by omega)
theorem RowP.load(R:RowP w0 blk off n)(S:SWK encP 2 w0 blk off d W)(hs:d.size=n)(i:Nat)(hi:i<n):loadP Tryz.prog (.pointer (some ⟨blk,off+i*2,none⟩)) W = .ok (valP d[i]!) W:=by
 have H:=R.holds S hs;exact loadP_at (cellP0 H (by omega)).1 (cellP1 H (by omega)).1
theorem RowP.ld(R:RowP w0 blk off n)(S:SWK encP 2 w0 blk off d W)(hs:d.size=n)(i:Nat)(hi:i<n)(q:Nat)(os:Array Obj):loadP Tryz.prog (.pointer (some ⟨blk,off+i*2,none⟩)) (grow (W.drewN q) os) = .ok (valP d[i]!) (grow (W.drewN q) os):=R.load (S.grown q os) hs i hi
theorem RowP.ld1(R:RowP w0 blk off n)(S:SWK encP 2 w0 blk off d W)(hs:d.size=n)(i:Nat)(hi:i<n):loadP Tryz.prog (.pointer (some ⟨blk,off+i*2,none⟩)) W.drew = .ok (valP d[i]!) W.drew:=R.load S.drew hs i hi
theorem RowP.st1(R:RowP w0 blk off n)(S:SWK encP 2 w0 blk off d W)(hs:d.size=n)(i:Nat)(hi:i<n)(y:Pr):storeP Tryz.prog (.pointer (some ⟨blk,off+i*2,none⟩)) (valP y) W.drew = .ok () (W.drew.setCells blk (off+i*2) (encP y)):=by
 have H:=R.holds S.drew hs;exact storeP_at (cellP0 H (by omega)).1 (cellP1 H (by omega)).1 (cellP0 H (by omega)).2 (cellP1 H (by omega)).2
theorem RowP.st2(R:RowP w0 blk off n)(S:SWK encP 2 w0 blk off d W)(hs:d.size=n)(i j:Nat)(hi:i<n)(hj:j<n)(y x:Pr):
 storeP Tryz.prog (.pointer (some ⟨blk,off+j*2,none⟩)) (valP x) (W.drew.setCells blk (off+i*2) (encP y)) = .ok () ((W.drew.setCells blk (off+i*2) (encP y)).setCells blk (off+j*2) (encP x)):=by
 have H:=holds_setCells_c (R.holds S.drew hs) (i*2) (encP y) (by rw[encP_k,size_flatK];omega);have c0:=H (j*2) (by rw[size_setMany,size_flatK];omega);have c1:=H (j*2+1) (by rw[size_setMany,size_flatK];omega);exact storeP_at c0.1 (by rw[Nat.add_assoc];exact c1.1) c0.2 (by rw[Nat.add_assoc];exact c1.2)
theorem RowP.swapped(R:RowP w0 blk off n)(S:SWK encP 2 w0 blk off d W)(hs:d.size=n)(i j:Nat)(hi:i<n)(hj:j<n):
 SWK encP 2 w0 blk off (swp d i j) ((W.drew.setCells blk (off+i*2) (encP d[j]!)).setCells blk (off+j*2) (encP d[i]!)):=by
 obtain⟨⟨d0,e,K⟩,_⟩:=R;exact S.swapped K i j (by omega) (by omega)
theorem RowP.cmp(S:SWK encP 2 w0 blk off d W)(x y:Pr)(q:Nat)(os:Array Obj):
 Calls Tryz.prog 112 #[valP x,valP y] (grow (W.drewN q) os) fun e w'=>e = .returned (.int .i64 (cfP x y))∧∃q' os',w'=grow ((grow (W.drewN q) os).drewN q') os':=S.cmp (byWord_lays blk off d.size w0) rfl x y q os
end
theorem zAr:Tryz.prog.follows .mixedOrders=true:=by kernel_rfl
end
section
open Go.RowKit Go.Shelf Go.Lib Go.Sort Pm
set_option maxRecDepth 1000000
attribute [local go_sem ↓] exec_load_P exec_store_P
theorem zDn(blk off n cap:Nat)(w0 w:World)(R:RowP w0 blk off n)(A X M Y B:List Pr)(S:SWK encP 2 w0 blk off (A++(X++(M++(Y++B)))).toArray w)(hn:(A++(X++(M++(Y++B)))).length=n)(hxy:X.length=Y.length)(a b c:Nat)(ha:a=A.length)(hb:b=A.length+X.length+M.length)(hc:c=X.length):
 Calls Tryz.prog 180 #[.slice (some ⟨blk,off,none⟩) n cap,.int .i64 a,.int .i64 b,.int .i64 c,.func (.func 112) #[] #[]] w fun e w'=>e = .returned (.tuple #[])∧SWK encP 2 w0 blk off (A++(Y++(M++(X++B)))).toArray w':=by
 have hbig:=R.big;have S0:Aside (SWK encP 2 w0 blk off (A++(X++(M++(Y++B)))).toArray w):=S;have hn':A.length+(X.length+(M.length+(Y.length+B.length)))=n:=by simpa using hn
 have HN:Hid (A.length+(X.length+(M.length+(Y.length+B.length)))=n):=hn';have HXY:Hid (X.length=Y.length):=hxy;have HA:Hid (a=A.length):=ha;have HB:Hid (b=A.length+X.length+M.length):=hb;have HC:Hid (c=X.length):=hc;have hbn:b+c≤n:=by omega
 have habn:a+c≤n:=by omega
 have mixed:=zAr;clear S hn hn' hxy ha hb hc;go_enter Tryz.func180,Tryz.ntmps180;go_wp2
 go_loopg [10] c (fun g s10 wr=>∃(i:Nat) (l:List Pr),s10 = .int .i64 i∧i≤c∧c-i≤g∧l.length=n∧Aside (SWK encP 2 w0 blk off l.toArray wr)∧Hid (l=A++(Y.take i++(X.drop i++(M++(X.take i++(Y.drop i++B)))))))
 case atStart=>exact⟨0,_,rfl,Nat.zero_le _,by omega,by simpa using HN.out,S0,by show _=_;simp⟩
 case round=>
  clear S0;obtain⟨i,l,rfl,hic,hg,hln,S1,HL⟩:=hrel;by_cases hlt:i<c
  · have hltz:(i:Int)<(c:Int):=by omega
    (have hX:i<X.length:=by have:=HC.out;omega);(have hY:i<Y.length:=by have:=HXY.out;omega);(have ea:((a:Int)+(i:Int)).toNat=a+i:=by omega);(have pa:(0:Int)≤(a:Int)+(i:Int):=by omega);(have ba:(a:Int)+(i:Int)<(n:Int):=by omega);(have ra:IntKind.i64.wrap ((a:Int)+(i:Int))=(a:Int)+(i:Int):=by rw[IntKind.wrap_i64];omega);(have ec:((b:Int)+(i:Int)).toNat=b+i:=by omega);(have pc:(0:Int)≤(b:Int)+(i:Int):=by omega);(have bc:(b:Int)+(i:Int)<(n:Int):=by omega);(have rc:IntKind.i64.wrap ((b:Int)+(i:Int))=(b:Int)+(i:Int):=by rw[IntKind.wrap_i64];omega);(have hs:l.toArray.size=n:=by simpa using hln);have S2:Aside (SWK encP 2 w0 blk off (swp l.toArray (a+i) (b+i)) ((wr.drew.setCells blk (off+(a+i)*2) (encP l.toArray[b+i]!)).setCells blk (off+(b+i)*2) (encP l.toArray[a+i]!))):=R.swapped S1.out hs (a+i) (b+i) (by omega) (by omega);have la:=R.ld1 S1.out hs (a+i) (by omega);have lb:=R.ld1 S1.out hs (b+i) (by omega);have sa:=R.st1 S1.out hs (a+i) (by omega) l.toArray[b+i]!;have sb:=R.st2 S1.out hs (a+i) (b+i) (by omega) (by omega) l.toArray[b+i]! l.toArray[a+i]!;have HSW:Hid (swp l.toArray (a+i) (b+i)=(A++(Y.take (i+1)++(X.drop (i+1)++(M++(X.take (i+1)++(Y.drop (i+1)++B)))))).toArray):=by
     show _=_;have e:l=(A++Y.take i)++X[i]::((X.drop (i+1)++(M++X.take i))++Y[i]::(Y.drop (i+1)++B)):=by
      rw[HL.out,List.drop_eq_getElem_cons hX,List.drop_eq_getElem_cons hY];simp only[List.append_assoc,List.cons_append]
     rw[swp_at l _ _ _ _ _ (a+i) (b+i) e (by simp;have:=HA.out;omega) (by simp;have:=HB.out;have:=HXY.out;omega),List.take_succ_eq_append_getElem hX,List.take_succ_eq_append_getElem hY];simp only[List.append_assoc,List.cons_append,List.nil_append]
    generalize l.toArray[b+i]! = yI at S2 lb sa sb;generalize l.toArray[a+i]! = xI at S2 la sb;clear S1 hs hX hY;go_wp2_with fail
    go_big_region_o
    clear la lb sa sb;generalize (wr.drew.setCells blk (off+(a+i)*2) (encP yI)).setCells blk (off+(b+i)*2) (encP xI)=w2 at S2 ⊢;go_wp2;go_roundg (c-(i+1));(case measure=>omega);case rel=>exact⟨i+1,_,by go_num,by omega,Nat.le_refl _,by have:=HN.out;have:=HXY.out;have:=HC.out;simp;omega,HSW.out▸S2,rfl⟩
  · have hltz:¬(i:Int)<(c:Int):=by omega
    go_wp2
    go_end0
    have e:l=A++(Y++(M++(X++B))):=by
     (have h1:X.length≤i:=by have:=HC.out;omega);(have h2:Y.length≤i:=by have:=HXY.out;omega);rw[HL.out,List.take_of_length_le h1,List.take_of_length_le h2,List.drop_eq_nil_of_le h1,List.drop_eq_nil_of_le h2];simp
    exact⟨rfl,e▸S1.out⟩
end
section
open Go.RowKit Go.Shelf Go.Lib Go.Sort Pm
set_option maxRecDepth 1000000
theorem zSt(blk off n cap:Nat)(w0 w:World)(R:RowP w0 blk off n)(A X Y B:List Pr)(S:SWK encP 2 w0 blk off (A++(X++(Y++B))).toArray w)(hn:(A++(X++(Y++B))).length=n)(hx:0<X.length)(hy:0<Y.length)(a m b:Nat)(ha:a=A.length)(hm:m=A.length+X.length)(hb:b=A.length+X.length+Y.length):
 Calls Tryz.prog 174 #[.slice (some ⟨blk,off,none⟩) n cap,.int .i64 a,.int .i64 m,.int .i64 b,.func (.func 112) #[] #[]] w fun e w'=>e = .returned (.tuple #[])∧SWK encP 2 w0 blk off (A++(Y++(X++B))).toArray w':=by
 have hbig:=R.big;have hn':A.length+(X.length+(Y.length+B.length))=n:=by simpa using hn
 have HN:Hid (A.length+(X.length+(Y.length+B.length))=n):=hn';obtain⟨i0,hi0⟩:∃i,i=X.length:=⟨_,rfl⟩;obtain⟨j0,hj0⟩:∃i,i=Y.length:=⟨_,rfl⟩;have e1:(m:Int)-(a:Int)=(i0:Int):=by omega
 have e2:(b:Int)-(m:Int)=(j0:Int):=by omega
 have hmi:i0≤m:=by omega
 have hmj:m+j0≤n:=by omega
 have hi00:0<i0:=by omega
 have hj00:0<j0:=by omega
 have S0:Aside (SWK encP 2 w0 blk off (A++(X++(Y++B))).toArray w):=S;have HI:Hid (i0=X.length):=hi0;have HJ:Hid (j0=Y.length):=hj0;have HM:Hid (m=A.length+X.length):=hm;clear S hn hn' hx hy ha hm hb hi0 hj0;go_enter Tryz.func174,Tryz.ntmps174;go_wp2
 go_loopg [10,11] (i0+j0) (fun g s10 s11 wr=>∃(i j:Nat) (A' X' Y' B':List Pr),s10 = .int .i64 i∧s11 = .int .i64 j∧i≤m∧m+j≤n∧0<i∧0<j∧i+j≤g∧Aside (SWK encP 2 w0 blk off (A'++(X'++(Y'++B'))).toArray wr)∧Hid (i=X'.length∧j=Y'.length∧m=A'.length+X'.length∧(A'++(X'++(Y'++B'))).length=n∧A'++(Y'++(X'++B'))=A++(Y++(X++B))))
 case atStart=>exact⟨i0,j0,A,X,Y,B,rfl,rfl,hmi,hmj,hi00,hj00,Nat.le_refl _,S0,HI.out,HJ.out,HM.out,by have:=HN.out;simpa using this,rfl⟩
 case round=>
  clear S0;obtain⟨i,j,A',X',Y',B',rfl,rfl,him,hjn,hi,hj,hg,S1,H⟩:=hrel;have emi:(m:Int)-(i:Int)=((m-i:Nat):Int):=by omega
  by_cases heq:i=j
  · subst heq
    (have hc:=fun(W:World) (SW:SWK encP 2 w0 blk off (A'++(X'++(Y'++B'))).toArray W)=>zDn blk off n cap w0 W R A' X' [] Y' B' SW H.out.2.2.2.1 (by have:=H.out;omega) (m-i) m i (by have:=H.out;omega) (by have:=H.out;simp;omega) H.out.1);go_wp2_with (go_at_call 180;refine(hc _ S1.out).mono ?_;rintro e w' ⟨rfl,S2⟩)
    go_end0
    exact⟨rfl,H.out.2.2.2.2▸S2⟩
  · have hne:((i:Int)==(j:Int))=false:=beq_eq_false_iff_ne.2 (by omega)
    by_cases hgt:j<i
    · have hgtz:(j:Int)<(i:Int):=by omega
      obtain⟨X1,X2,hX,hX1⟩:=zG8 X' j (by have:=H.out;omega);(have eij:(i:Int)-(j:Int)=((i-j:Nat):Int):=by omega);(have hX2:Hid (X2.length=i-j):=by show _=_;have h:=H.out.1;rw[hX]at h;simp at h;omega);have HX1:Hid (X1.length=j):=hX1;have HXX:Hid (X'=X1++X2):=hX;(have hc:=fun(W:World) (SW:SWK encP 2 w0 blk off (A'++(X1++(X2++(Y'++B')))).toArray W)=>zDn blk off n cap w0 W R A' X1 X2 Y' B' SW (by have:=H.out.2.2.2.1;rw[hX]at this;simpa using this) (by have:=H.out;omega) (m-i) m j (by have:=H.out;omega) (by have:=H.out;have:=hX2.out;omega) hX1.symm);have S1':Aside (SWK encP 2 w0 blk off (A'++(X1++(X2++(Y'++B')))).toArray wr):=by
       have:=S1.out;rw[hX,List.append_assoc]at this;exact this
      clear S1 hX hX1;go_wp2_with (go_at_call 180;refine(hc _ S1'.out).mono ?_;rintro e w' ⟨rfl,S2⟩);have S2':Aside (SWK encP 2 w0 blk off ((A'++Y')++(X2++(X1++B'))).toArray w'):=by
       have:=S2;rw[show A'++(Y'++(X2++(X1++B')))=(A'++Y')++(X2++(X1++B'))by simp]at this;exact this
      clear S2;go_roundg (i-j+j);case measure=>omega
      case rel=>
       refine⟨i-j,j,A'++Y',X2,X1,B',by rw[←eij],rfl,by omega,hjn,by omega,hj,Nat.le_refl _,S2',hX2.out.symm,HX1.out.symm,?_,?_,?_⟩
       · have:=H.out;have:=hX2.out;simp;omega
       · have h1:=H.out.2.2.2.1;have h2:=H.out;have h3:=hX2.out;have h4:=HX1.out;simp at h1 ⊢;omega
       · rw[←H.out.2.2.2.2,HXX.out];simp
    · have hgtz:¬(j:Int)<(i:Int):=by omega
      (have hlt:i<j:=by omega);obtain⟨Y1,Y2,hY,hY1⟩:=zG8 Y' (j-i) (by have:=H.out;omega);(have eji:(j:Int)-(i:Int)=((j-i:Nat):Int):=by omega);(have emj:(m:Int)+(j:Int)-(i:Int)=((m+j-i:Nat):Int):=by omega);(have hY2:Hid (Y2.length=i):=by show _=_;have h:=H.out.2.1;rw[hY]at h;simp at h;omega);have HY1:Hid (Y1.length=j-i):=hY1;have HYY:Hid (Y'=Y1++Y2):=hY;(have hc:=fun(W:World) (SW:SWK encP 2 w0 blk off (A'++(X'++(Y1++(Y2++B')))).toArray W)=>zDn blk off n cap w0 W R A' X' Y1 Y2 B' SW (by have:=H.out.2.2.2.1;rw[hY]at this;simpa using this) (by have:=H.out;have:=hY2.out;omega) (m-i) (m+j-i) i (by have:=H.out;omega) (by have:=H.out;omega) H.out.1);have S1':Aside (SWK encP 2 w0 blk off (A'++(X'++(Y1++(Y2++B')))).toArray wr):=by
       have:=S1.out;rw[hY,List.append_assoc Y1]at this;exact this
      clear S1 hY hY1;go_wp2_with (go_at_call 180;refine(hc _ S1'.out).mono ?_;rintro e w' ⟨rfl,S2⟩);have S2':Aside (SWK encP 2 w0 blk off (A'++(Y2++(Y1++(X'++B')))).toArray w'):=S2;clear S2;go_roundg (i+(j-i));case measure=>omega
      case rel=>
       refine⟨i,j-i,A',Y2,Y1,X'++B',rfl,by rw[←eji],him,by omega,hi,by omega,Nat.le_refl _,S2',hY2.out.symm,HY1.out.symm,?_,?_,?_⟩
       · have:=H.out;have:=hY2.out;omega
       · have h1:=H.out.2.2.2.1;have h2:=H.out;have h3:=hY2.out;have h4:=HY1.out;simp at h1 ⊢;omega
       · rw[←H.out.2.2.2.2,HYY.out];simp
set_option maxRecDepth 1000000
theorem zLe{x y:Pr}(h:zAa x.1 y.1=true):cfP x y<0:=by unfold cfP;rw[if_pos h];decide
theorem zD9{x y:Pr}(h:zAa x.1 y.1=false):¬cfP x y<0:=by
 unfold cfP;rw[h];cases zAa y.1 x.1<;>decide
theorem all_lt{R:List Pr}{u x:Pr}(h:Up zAa (R++[u]))(hu:zAa u.1 x.1=true):∀v∈R++[u],zAa v.1 x.1=true:=fun v hv=>
 up_lt lessB_sto (L:=[]) h (List.pairwise_singleton ..) hu v hv x (List.mem_singleton.2 rfl)
theorem all_ge{R:List Pr}{u x:Pr}(h:Up zAa (u::R))(hu:zAa u.1 x.1=false):∀v∈u::R,zAa v.1 x.1=false:=fun v hv=>
 up_le lessB_sto (L:=[]) (List.pairwise_singleton ..) h hu x (by simp) v hv
theorem all_le{R:List Pr}{u y:Pr}(h:Up zAa (R++[u]))(hu:zAa y.1 u.1=false):∀v∈R++[u],zAa y.1 v.1=false:=fun v hv=>
 up_le lessB_sto (R:=[]) h (List.pairwise_singleton ..) hu v hv y (List.mem_singleton.2 rfl)
theorem all_gt{R:List Pr}{u y:Pr}(h:Up zAa (u::R))(hu:zAa y.1 u.1=true):∀v∈u::R,zAa y.1 v.1=true:=fun v hv=>
 up_lt lessB_sto (R:=[]) (List.pairwise_singleton ..) h hu y (by simp) v hv
theorem zD0{a b:List Pr}(h:Up zAa (a++b)):Up zAa a:=(List.pairwise_append.1 h).1
theorem zB9{a b:List Pr}(h:Up zAa (a++b)):Up zAa b:=(List.pairwise_append.1 h).2.1
theorem zK5(P L S:List Pr)(i:Nat)(h1:P.length≤i)(h2:i≤P.length+L.length):∃L1 L2,L=L1++L2∧P.length+L1.length=i ∧
 (0<L1.length→∃a u,L1=a++[u]∧(P++(L++S)).toArray[i-1]! = u)∧(0<L2.length→∃u b,L2=u::b∧(P++(L++S)).toArray[i]! = u):=by
 obtain⟨L1,L2,rfl,hl⟩:=zG8 L (i-P.length) (by omega);refine⟨L1,L2,rfl,by omega,fun h=>?_,fun h=>?_⟩
 · obtain⟨a,u,rfl⟩:=zRz L1 h
   exact⟨a,u,rfl,Pm.get_at _ (P++a) (L2++S) u (i-1) (by simp) (by simp at hl ⊢;omega)⟩
 · cases L2 with
   |nil=>simp at h
   |cons u b=>exact⟨u,b,rfl,Pm.get_at _ (P++L1) (b++S) u i (by simp) (by simp at hl ⊢;omega)⟩
end
