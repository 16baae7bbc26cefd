import Derived.Test.YtkdhdehobdfakaaGreatDoorJ27
namespace Go.Proofs.YtkdhdehobdfakaaGreatDoor
open Go.RowKit Go.Lib Nums Pm
set_option maxRecDepth 100000
namespace Bt
def zGn(p:Nat):Value := .iface 188 (.pointer (some ⟨p,1,none⟩))
theorem zLa(W:World)(p:Nat)(ad:Option Addr)(n cap:Nat)(h:W.cell? ⟨p,1,none⟩=some (.slice ad n cap))(s:String)(f:FuncId)(k fuel:Nat)
 (e2:Array.find? (fun x=>x.name==s) (Tryz.prog.types[188]!).methods=some (Tryz.prog.types[188]!.methods[k]!)) (hp:(Tryz.prog.types[188]!.methods[k]!).path=#[]) (hf:(Tryz.prog.types[188]!.methods[k]!).func=some (f,false)):(method (fuel+1) 188 (.pointer (some ⟨p,1,none⟩)) s).run Tryz.prog W = .ok (f,.slice ad n cap) W:=by
 have e1:(typeInfo 188).run Tryz.prog W = .ok (Tryz.prog.types[188]!) W:=by kernel_rfl
 have e3:(underlying 188).run Tryz.prog W = .ok (.pointer 181) W:=by kernel_rfl
 have e4:∀a b:String,(Builtin.ssaWrapNilChk_ #[188] 188 #[.pointer (some ⟨p,1,none⟩),strVal a,strVal b]).run Tryz.prog W = .ok (.pointer (some ⟨p,1,none⟩)) W:=fun _ _=>by kernel_rfl
 unfold method;simp only[Sem.run_bind,e1,Result.andThen_ok,e2,hp,hf,follow,receiverAt,Sem.run_pure,e3,Place.get,asAddr,loadVar];simp[go_sem,h,e4]
theorem zFw (W : World) (p : Nat) (ad : Option Addr) (n cap : Nat) (h : W.cell? ⟨p, 1, none⟩ = some (.slice ad n cap)) : (method 389 188 (.pointer (some ⟨p, 1, none⟩)) "Less").run Tryz.prog W = .ok (198, .slice ad n cap) W :=
 zLa W p ad n cap h "Less" _ 1 _ (by kernel_rfl) (by kernel_rfl) (by kernel_rfl)
theorem zH8 (W : World) (p : Nat) (ad : Option Addr) (n cap : Nat) (h : W.cell? ⟨p, 1, none⟩ = some (.slice ad n cap)) : (method 389 188 (.pointer (some ⟨p, 1, none⟩)) "Swap").run Tryz.prog W = .ok (199, .slice ad n cap) W :=
 zLa W p ad n cap h "Swap" _ 4 _ (by kernel_rfl) (by kernel_rfl) (by kernel_rfl)
theorem zQ8 (W : World) (p : Nat) (ad : Option Addr) (n cap : Nat) (h : W.cell? ⟨p, 1, none⟩ = some (.slice ad n cap)) : (method 389 188 (.pointer (some ⟨p, 1, none⟩)) "Len").run Tryz.prog W = .ok (138, .slice ad n cap) W :=
 zLa W p ad n cap h "Len" _ 0 _ (by kernel_rfl) (by kernel_rfl) (by kernel_rfl)
theorem zV2 (W : World) (p : Nat) : (method 389 188 (.pointer (some ⟨p, 1, none⟩)) "Push").run Tryz.prog W = .ok (201, .pointer (some ⟨p, 1, none⟩)) W := by kernel_rfl
theorem meth_pop (W : World) (p : Nat) : (method 389 188 (.pointer (some ⟨p, 1, none⟩)) "Pop").run Tryz.prog W = .ok (200, .pointer (some ⟨p, 1, none⟩)) W := by kernel_rfl
set_option maxHeartbeats 1000000 in
theorem up_any(B:Nat)(w:World)(p:Nat)(room:Int)(v:Value)(h:List Mt)(j:Nat)(K:KAt B w p room v h)(J:UpJ h.length h j)(hl:h.length<1099511627776):
 Calls Tryz.prog 140 #[zGn p,.int .i64 j] w fun e w'=>e = .returned (.tuple #[])∧∃h',KAt B w' p room v h'∧Upd (KF p v) w w'∧h'.Perm h∧Hp h'.length h':=by
 obtain⟨ad,cap,hv⟩:=K.form;obtain⟨n,hn⟩:∃n,h.length=n:=⟨_,rfl⟩;rw[hn]at hv hl J;subst hv;have HK:Hid (KAt B w p room (.slice ad n cap) h):=K;have HJ:Hid (UpJ n h j):=J;have hj:=J.lt;have HN:Hid (h.length=n):=hn;clear K J hn;unfold zGn;go_enter Tryz.func140,Tryz.ntmps140;go_wp2
 go_loopg [1] j (fun g s1 wr=>∃(k:Nat) (h':List Mt),s1 = .int .i64 k∧k≤g∧k<n∧Hid (KAt B wr p room (.slice ad n cap) h'∧UpJ n h' k∧h'.Perm h∧Upd (KF p (.slice ad n cap)) w wr))
 case atStart=>exact⟨j,h,rfl,Nat.le_refl _,by omega,HK.out,HJ.out,.refl _,Upd.refl _ _⟩
 case round=>
  obtain⟨k,h',rfl,hkg,hkn,HR⟩:=hrel;have HL':Hid (h'.length=n):=by have:=HR.out.2.2.1.length_eq;have:=HN.out;show h'.length=n;omega
  by_cases h0:k=0
  · subst h0
    go_wp2;go_returns;exact⟨rfl,h',HR.out.1,HR.out.2.2.2,HR.out.2.2.1,by rw[HL'.out];exact HR.out.2.1.stop (.inl rfl)⟩
  · have hpk:pa k<k:=by unfold pa;omega
    have hdiv:((k:Int)-1).tdiv 2=(pa k:Int):=by
     (have:(k:Int)-1=((k-1:Nat):Int):=by omega);rw[this];unfold pa;exact(Int.ofNat_tdiv _ _).symm
    (have hne:((pa k:Int)==(k:Int))=false:=by simp;omega);have hm:=zFw wr p ad n cap HR.out.1.c1;have HLS:Hid (Calls Tryz.prog 198 #[.slice ad n cap,.int .i64 (k:Int),.int .i64 (pa k:Int)] wr fun e w'=>e = .returned (.bool (btr (el h' (pa k)) (el h' k)))∧Below wr.heap.size wr w'):=zL7 B wr _ h' HR.out.1.row k (pa k) (by have:=HL'.out;omega) (by have:=HL'.out;omega) (by have:=HL'.out;omega);obtain⟨i,hi⟩:∃i,pa k=i:=⟨_,rfl⟩;rw[hi]at hdiv hne HLS hpk;obtain⟨b,hb⟩:∃b,btr (el h' i) (el h' k)=b:=⟨_,rfl⟩;have HI:Hid (pa k=i):=hi;have HB:Hid (btr (el h' i) (el h' k)=b):=hb;rw[hb]at HLS;clear hi hb h0;cases b
    · go_wp2_with (go_at_call 198;refine HLS.out.mono ?_;rintro e w1 ⟨rfl,hb1⟩;have HB1:Hid (Below wr.heap.size wr w1):=hb1;clear hb1)
      go_returns;exact⟨rfl,h',HR.out.1.below HB1.out,HR.out.2.2.2.trans (G:=fun _=>False) (zAm HB1.out) (fun _ _ f=>f.elim),HR.out.2.2.1,by rw[HL'.out];exact HR.out.2.1.stop (.inr (by rw[HI.out];exact HB.out))⟩
    · go_wp2_with (go_at_call 198;refine HLS.out.mono ?_;rintro e w1 ⟨rfl,hb1⟩;have HB1:Hid (Below wr.heap.size wr w1):=hb1;clear hb1;clear hm;have hm:=zH8 w1 p ad n cap (HR.out.1.below HB1.out).c1)
      have HSW:Hid (Calls Tryz.prog 199 #[.slice ad n cap,.int .i64 (i:Int),.int .i64 (k:Int)] w1 fun e w'=>e = .returned (.tuple #[])∧GOwn 52 3 B w' (.slice ad n cap) ((swp h' i k).map cellsM)∧Upd (fun j=>(Value.slice ad n cap).ownBlock=some j) w1 w'):=zL2 B w1 _ h' (HR.out.1.below HB1.out).row i k (by have:=HL'.out;omega) (by have:=HL'.out;omega) (by have:=HL'.out;omega);refine HSW.out.mono ?_;rintro e w2 ⟨rfl,hg2,hu2⟩;have K1:=HR.out.1.below HB1.out;have HR2:Hid (KAt B w2 p room (.slice ad n cap) (swp h' i k)∧UpJ n (swp h' i k) i∧(swp h' i k).Perm h∧Upd (KF p (.slice ad n cap)) w w2):=by
       have J2:=HR.out.2.1.step (by omega) (by rw[HI.out];exact HB.out);rw[HI.out]at J2;have hp:=hu2.block p K1.lt K1.ap;refine⟨⟨K1.low,Nat.lt_of_lt_of_le K1.lt hu2.size,(World.cell?_of_block (w:=w1) (a:=⟨p,0,none⟩) hp).trans K1.c0,(World.cell?_of_block (w:=w1) (a:=⟨p,1,none⟩) hp).trans K1.c1,(World.frozen?_of_block (w:=w1) (a:=⟨p,1,none⟩) hp).trans K1.f1,hg2,K1.ap⟩,J2,(zKp h' i k (by have:=HL'.out;omega) (by have:=HL'.out;omega)).trans HR.out.2.2.1,?_⟩;exact(HR.out.2.2.2.trans (G:=fun _=>False) (zAm HB1.out) (fun _ _ f=>f.elim)).trans hu2 (fun _ _ e => .inr e)
      clear hg2 hu2 K1 HR hm HLS HSW;go_wp2;go_roundg i;(case measure=>omega);case rel=>exact⟨i,swp h' i k,rfl,Nat.le_refl _,by omega,HR2⟩
