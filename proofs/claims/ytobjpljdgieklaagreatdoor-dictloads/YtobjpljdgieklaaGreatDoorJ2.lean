import Derived.Test.YtobjpljdgieklaaGreatDoorRows
import Derived.Test.YtobjpljdgieklaaGreatDoorNums
import Derived.ProofKit
import Derived.OpenShut
import Derived.Deep.QuietTactic
import Derived.BigQuiet
set_option maxRecDepth 100000
set_option maxHeartbeats 8000000
namespace Go.Proofs.YtobjpljdgieklaaGreatDoor
section
open Go.RowKit Nums
theorem zDh(r:Int)(w:World):Calls Tryz.prog 132 #[.int .i32 r] w fun e w'=>e = .returned (.bool (isR r))∧w'=w:=by
 by_cases h0:0≤r
 · by_cases h1:r<1114112
   · by_cases h2:r<55296
     · go_enter Tryz.func132,Tryz.ntmps132
       go_wp2;go_ret;exact⟨zCg (by first|(rw[zEy (by omega)])|(rw[zEa (by omega)])),rfl⟩
     · by_cases h3:57343<r
       all_goals
        go_enter Tryz.func132,Tryz.ntmps132;go_wp2;go_ret;exact⟨zCg (by first|(rw[zEy (by omega)])|(rw[zEa (by omega)])),rfl⟩
   · go_enter Tryz.func132,Tryz.ntmps132
     go_wp2;go_ret;exact⟨zCg (by first|(rw[zEy (by omega)])|(rw[zEa (by omega)])),rfl⟩
 · go_enter Tryz.func132,Tryz.ntmps132
   go_wp2;go_ret;exact⟨zCg (by first|(rw[zEy (by omega)])|(rw[zEa (by omega)])),rfl⟩
theorem zGk(r:Int)(w:World):Calls Tryz.prog 94 #[.int .i32 r] w fun e w'=>e = .returned (.bool (vis r))∧w'=w:=by
 by_cases h0:32<r
 all_goals
  go_enter Tryz.func94,Tryz.ntmps94;go_wp2;go_ret;exact⟨zCg (by rw[Bool.eq_iff_iff];simp[vis];try omega),rfl⟩
theorem zC0(b:Int)(w:World):Calls Tryz.prog 131 #[.int .u8 b] w fun e w'=>e = .returned (.int .i64 (ldSz b))∧w'=w:=by
 by_cases h0:b<128
 · go_enter Tryz.func131,Tryz.ntmps131
   go_wp2;go_ret;exact⟨zBy (by unfold ldSz;repeat' split;all_goals omega),rfl⟩
 by_cases h1:b<192
 · go_enter Tryz.func131,Tryz.ntmps131
   go_wp2;go_ret;exact⟨zBy (by unfold ldSz;repeat' split;all_goals omega),rfl⟩
 by_cases h2:b<224
 · go_enter Tryz.func131,Tryz.ntmps131
   go_wp2;go_ret;exact⟨zBy (by unfold ldSz;repeat' split;all_goals omega),rfl⟩
 by_cases h3:b<240
 · go_enter Tryz.func131,Tryz.ntmps131
   go_wp2;go_ret;exact⟨zBy (by unfold ldSz;repeat' split;all_goals omega),rfl⟩
 by_cases h4:b<248
 · go_enter Tryz.func131,Tryz.ntmps131
   go_wp2;go_ret;exact⟨zBy (by unfold ldSz;repeat' split;all_goals omega),rfl⟩
 · go_enter Tryz.func131,Tryz.ntmps131
   go_wp2;go_ret;exact⟨zBy (by unfold ldSz;repeat' split;all_goals omega),rfl⟩
def Tabs(w:World):Prop:=
 w.cell? ⟨0,2,none⟩=some (.int .u8 192)∧w.cell? ⟨0,3,none⟩=some (.int .u8 224)∧w.cell? ⟨0,4,none⟩=some (.int .u8 240) ∧
 w.cell? ⟨0,1,none⟩=some (.int .u8 0) ∧
 w.cell? ⟨1,1,none⟩=some (.int .i32 0)∧w.cell? ⟨1,2,none⟩=some (.int .i32 128)∧w.cell? ⟨1,3,none⟩=some (.int .i32 2048)∧w.cell? ⟨1,4,none⟩=some (.int .i32 65536)
theorem zKg(s:ByteArray)(w:World)(h0:0<s.size)(h1:ldSz ((s[0]'h0).toNat:Int)=0):
 Calls Tryz.prog 93 #[.string s] w fun e w'=>e = .returned (.tuple #[.int .i32 0,.int .i64 0])∧∃n,w'=w.drewN n:=by
 go_enter Tryz.func93,Tryz.ntmps93;go_wp2_with (go_at_call 131;refine(zC0 _ _).mono ?_;rintro e w' ⟨rfl,rfl⟩;rw[h1]);go_ret2;exact⟨rfl,0,rfl⟩
theorem zIo(s:ByteArray)(w:World)(n:Nat)(h0:0<s.size)(hn2:2≤n)(hn4:n≤4)(h1:ldSz ((s[0]'h0).toNat:Int)=n)(hs:s.size<n):
 Calls Tryz.prog 93 #[.string s] w fun e w'=>e = .returned (.tuple #[.int .i32 0,.int .i64 0])∧∃n,w'=w.drewN n:=by
 go_enter Tryz.func93,Tryz.ntmps93;go_wp2_with (go_at_call 131;refine(zC0 _ _).mono ?_;rintro e w' ⟨rfl,rfl⟩;rw[h1]);go_ret2;exact⟨rfl,0,rfl⟩
theorem zIp(s:ByteArray)(w:World)(ht:Tabs w)(h0:0<s.size)(hm:s.size≤9223372036854775807)(h1:((s[0]'h0).toNat:Int)<128):
 Calls Tryz.prog 93 #[.string s] w fun e w'=>e = .returned (.tuple #[.int .i32 ((s[0]'h0).toNat:Int),.int .i64 1])∧∃n,w'=w.drewN n:=by
 obtain⟨c2,c3,c4,c1,t1,t2,t3,t4⟩:=ht
 have hl : ldSz ((s[0]'h0).toNat : Int) = 1 := by unfold ldSz; repeat' split
                                                  all_goals omega
 go_enter Tryz.func93,Tryz.ntmps93;go_wp2_with (go_at_call 131;refine(zC0 _ _).mono ?_;rintro e w' ⟨rfl,rfl⟩;rw[hl]);go_quiet (fail);go_wp2;refine wp_loop_rounds 1 ?_;rw[rounds_succ];go_wp2_with (go_at_call 132;refine(zDh _ _).mono ?_;rintro e w' ⟨rfl,rfl⟩;rw[zEy (by omega)]);go_ret2;exact⟨rfl,_,rfl⟩
theorem zKh(s:ByteArray)(w:World)(ht:Tabs w)(n:Nat)(h0:0<s.size)(hm:s.size≤9223372036854775807)(hn2:2≤n)(hn4:n≤4)(hl:ldSz ((s[0]'h0).toNat:Int)=n)(hs:n≤s.size):
 Calls Tryz.prog 93 #[.string s] w fun e w'=>e = .returned (.tuple #[.int .i32 (rd s.data.toList).1,.int .i64 (rd s.data.toList).2])∧∃n,w'=w.drewN n:=by
 obtain⟨c2,c3,c4,c1,t1,t2,t3,t4⟩:=ht;have hb0:ldOf n≤((s[0]'h0).toNat:Int)∧((s[0]'h0).toNat:Int)-ldOf n<32:=lead_bd hn2 hn4 hl;have hcn:w.cell? ⟨0,n,none⟩=some (.int .u8 (ldOf n)):=by
  obtain rfl|rfl|rfl:n=2∨n=3∨n=4:=by omega
  · exact c2
  · exact c3
  · exact c4
 have htn:w.cell? ⟨1,n,none⟩=some (.int .i32 (low n)):=by
  obtain rfl|rfl|rfl:n=2∨n=3∨n=4:=by omega
  · exact t2
  · exact t3
  · exact t4
 have hld:=ldOf_bd n;clear c2 c3 c4 c1 t1 t2 t3 t4;have hn0:((n:Int)==0)=false:=beq_eq_false_iff_ne.2 (by omega);have hns:decide (s.size<n)=false:=by simpa using hs
 have HL:Hid (ldSz ((s[0]'h0).toNat:Int)=n):=hl;clear hl;have hbt:∀i (h:i<s.size),((s[i]'h).toNat:Int)=bt s.data.toList i:=zNh s;have HB:Hid (∀i (h:i<s.size),((s[i]'h).toNat:Int)=bt s.data.toList i):=hbt;clear hbt;go_enter Tryz.func93,Tryz.ntmps93;go_wp2_with (go_at_call 131;refine(zC0 _ _).mono ?_;rintro e w' ⟨rfl,rfl⟩;rw[HL.out]);go_quiet (fail);go_wp2;have HA0:0≤bt s.data.toList 0-ldOf n∧bt s.data.toList 0-ldOf n<32:=by have:=HB.out 0 h0;omega
 have HL':Hid (ldSz (bt s.data.toList 0)=n):=by have e:=HL.out;rw[HB.out 0 h0]at e;exact e
 go_loop [5,6] (fun r i=>∃k:Nat,1≤k∧k≤n∧i = .int .i64 k∧r = .int .i32 (acc (ldOf n) s.data.toList k)∧zJ3 s.data.toList k) (fun _ i=>n-(intOf i).toNat)
 case atStart=>exact⟨1,by omega,by omega,rfl,by rw[acc1,HB.out 0 h0],zTp _⟩
 case round=>
  obtain⟨k,hk1,hkn,rfl,rfl,htl⟩:=hrel
  have hfail:Hid (∀k,1≤k→k<n→(bt s.data.toList k<128∨192≤bt s.data.toList k)→rd s.data.toList=(0,0)):=fun k a b c=>
   rd_no hn2 hn4 HL'.out (fun h=>zTq a b c h.2.1)
  by_cases hlt:k<n
  · have hks:k<s.size:=by omega
    have ha:=zXj HA0 k (by omega) htl;by_cases hA:((s[k]'hks).toNat:Int)<128
    · go_wp2
      go_ret2;refine⟨?_,_,rfl⟩;rw[hfail.out k hk1 hlt (by rw[←HB.out k hks];omega)];rfl
    · by_cases hC:192≤((s[k]'hks).toNat:Int)
      · go_wp2
        go_ret2;refine⟨?_,_,rfl⟩;rw[hfail.out k hk1 hlt (by rw[←HB.out k hks];omega)];rfl
      · go_wp2
        go_round
        (case rel=>exact⟨k+1,by omega,by omega,by go_num,by rw[acc_next _ _ hk1,←HB.out k hks],zRu htl (by rw[←HB.out k hks];omega)⟩);case measure=>simp[intOf];omega
  · obtain rfl:k=n:=by omega
    have ha:=acc_bd HA0 k hn4 htl;by_cases hlo:acc (ldOf k) s.data.toList k<low k
    · go_wp2
      go_ret2;refine⟨?_,_,rfl⟩;rw[rd_no hn2 hn4 HL'.out (fun h=>by have:=h.2.2.1;omega)];rfl
    · by_cases hR:isR (acc (ldOf k) s.data.toList k)=true
      · have HR:Hid (isR (acc (ldOf k) s.data.toList k)=true):=hR
        clear hR;have HF:Hid (rd s.data.toList=(acc (ldOf k) s.data.toList k,k)):=zQa hn2 hn4 HL'.out (by rw[zAj];exact hs) htl (by omega) HR.out;go_wp2_with (go_at_call 132;refine(zDh _ _).mono ?_;rintro e w' ⟨rfl,rfl⟩;rw[HR.out]);go_ret2;refine⟨?_,_,rfl⟩;rw[HF.out];rfl
      · have HR:Hid (isR (acc (ldOf k) s.data.toList k)=false):=(Bool.not_eq_true _).mp hR
        clear hR;have HF:Hid (rd s.data.toList=(0,0)):=rd_no hn2 hn4 HL'.out (fun h=>by have:=h.2.2.2;rw[HR.out]at this;cases this);go_wp2_with (go_at_call 132;refine(zDh _ _).mono ?_;rintro e w' ⟨rfl,rfl⟩;rw[HR.out]);go_ret2;refine⟨?_,_,rfl⟩;rw[HF.out];rfl
theorem zBs(s:ByteArray)(w:World)(ht:Tabs w)(h0:0<s.size)(hm:s.size≤9223372036854775807):
 Calls Tryz.prog 93 #[.string s] w fun e w'=>e = .returned (.tuple #[.int .i32 (rd s.data.toList).1,.int .i64 (rd s.data.toList).2])∧∃n,w'=w.drewN n:=by
 have hb:=zNh s 0 h0;have hbd:=zXa s.data.toList 0;by_cases h1:bt s.data.toList 0<128
 · rw[rd_one h1,←hb]
   exact zIp s w ht h0 hm (by omega)
 by_cases h2:bt s.data.toList 0<192∨248≤bt s.data.toList 0
 · rw[rd_none (by omega) h2]
   exact zKg s w h0 (by rw [hb]; unfold ldSz; repeat' split
                        all_goals omega)
 obtain⟨n,hn2,hn4,hl⟩:∃n:Nat,2≤n∧n≤4∧ldSz (bt s.data.toList 0)=n:=by
  by_cases a:bt s.data.toList 0<224
  · exact ⟨2, by omega, by omega, by unfold ldSz; repeat' split
                                     all_goals omega⟩
  by_cases b:bt s.data.toList 0<240
  · exact ⟨3, by omega, by omega, by unfold ldSz; repeat' split
                                     all_goals omega⟩
  · exact ⟨4, by omega, by omega, by unfold ldSz; repeat' split
                                     all_goals omega⟩
 by_cases hs:n≤s.size
 · exact zKh s w ht n h0 hm hn2 hn4 (by rw[hb];exact hl) hs
 · rw[rd_no hn2 hn4 hl (fun h=>hs (by have:=h.1;rw[zAj]at this;exact this))]
   exact zIo s w n h0 hn2 hn4 (by rw[hb];exact hl) (by omega)
end
