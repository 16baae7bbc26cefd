import Derived.Test.YtkdhdehobdfakaaGreatDoorBtDown
namespace Go.Proofs.YtkdhdehobdfakaaGreatDoor
open Go.RowKit Go.Lib Nums Pm
set_option maxRecDepth 100000
namespace Bt
def Nxt(w:World)(v v':Value):Prop:=v'.ownBlock=v.ownBlock∨∃g,v'.ownBlock=some g∧w.heap.size≤g
theorem KF.nxt{w:World}{p:Nat}{v v':Value}(h:Nxt w v v'){k:Nat}(hk:k<w.heap.size)(f:KF p v' k):KF p v k:=by
 rcases f with f|f
 · exact .inl f
 · rcases h with e|⟨g,e,hg⟩
   · exact .inr (e▸f)
   · rw[e]at f;cases f;omega
set_option maxHeartbeats 1000000 in
theorem Push_any(B:Nat)(w:World)(p:Nat)(room:Int)(v:Value)(h:List Mt)(m:Mt)(K:KAt B w p room v h)(H:Hp h.length h)(hl:h.length<549755813888):
 Calls Tryz.prog 107 #[zGn p,.iface 52 (valM m)] w fun e w'=>e = .returned (.tuple #[])∧∃v' h',KAt B w' p room v' h'∧Upd (KF p v) w w'∧Nxt w v v'∧h'.Perm (h++[m])∧Hp h'.length h':=by
 have HP:Hid (Calls Tryz.prog 201 #[.pointer (some ⟨p,1,none⟩),.iface 52 (valM m)] w fun e w'=>e = .returned (.tuple #[])∧∃v',KAt B w' p room v' (h++[m])∧Upd (KF p v) w w'∧(v'.ownBlock=v.ownBlock∨∃g,v'.ownBlock=some g∧w.heap.size≤g)):=zYx B w p room v h m K (by omega);have HJ:Hid (UpJ (h++[m]).length (h++[m]) h.length):=by
  have:=UpJ.start (x:=m) H;have e:(h++[m]).length=h.length+1:=by simp
  show UpJ _ _ _;rw[e];exact this
 have hmp:=zV2 w p;obtain⟨n,hn⟩:∃n,h.length=n:=⟨_,rfl⟩;have HN:Hid (h.length=n):=hn;rw[hn]at hl HJ;clear K H hn;generalize valM m=vm at *;unfold zGn;go_enter Tryz.func107,Tryz.ntmps107;go_upto_region 1 with(go_at_call 201;refine HP.out.mono ?_;rintro e w1 ⟨rfl,v1,hK1,hu1,hx1⟩)
 obtain⟨ad,cap,hv1⟩:=hK1.form;obtain⟨n1,hn1⟩:∃n1,(h++[m]).length=n1:=⟨_,rfl⟩;rw[hn1]at hv1 HJ;subst hv1;have hn2:n1=n+1:=by have:=HN.out;simp at hn1;omega
 have HK1:Hid (KAt B w1 p room (.slice ad n1 cap) (h++[m])):=hK1;have HU1:Hid (Upd (KF p v) w w1):=hu1;have HX1:Hid (Nxt w v (.slice ad n1 cap)):=hx1;have hml:=zQ8 w1 p ad n1 cap hK1.c1;have hsub:IntKind.i64.wrap ((n1:Int)-1)=(n:Int):=by rw[IntKind.wrap_i64];omega
 have hsub2:(n1:Int)-1=(n:Int):=by omega
 have HUP:Hid (Calls Tryz.prog 140 #[.iface 188 (.pointer (some ⟨p,1,none⟩)),.int .i64 n] w1 fun e w'=>e = .returned (.tuple #[])∧∃h',KAt B w' p room (.slice ad n1 cap) h'∧Upd (KF p (.slice ad n1 cap)) w1 w'∧h'.Perm (h++[m])∧Hp h'.length h'):=up_any B w1 p room _ (h++[m]) n hK1 (by rw[hn1];exact HJ.out) (by rw[hn1];omega);clear hK1 hu1 hx1 hmp HP HJ hn1 hn2
 go_wp2_with (first
  |(go_at_call 138;refine(zL4 w1 ad n1 cap).mono ?_;rintro e w2 ⟨rfl,rfl⟩)
  |(go_at_call 140;refine HUP.out.mono ?_;rintro e w3 ⟨rfl,h3,hK3,hu3,hp3,hh3⟩))
 go_returns;exact⟨rfl,_,h3,hK3,HU1.out.trans hu3 (fun k hk f=>KF.nxt HX1.out hk f),HX1.out,hp3,hh3⟩
set_option maxHeartbeats 1000000 in
theorem Pop_any(B:Nat)(w:World)(p:Nat)(room:Int)(v:Value)(h:List Mt)(n:Nat)(K:KAt B w p room v h)(H:Hp h.length h)(hn:h.length=n+1)(hl:h.length<549755813888):
 Calls Tryz.prog 139 #[zGn p] w fun e w'=>e = .returned (.iface 52 (valM (el h 0)))∧∃v' h',KAt B w' p room v' h'∧Upd (KF p v) w w'∧v'.ownBlock=v.ownBlock∧(el h 0::h').Perm h∧Hp h'.length h'∧h'.length=n:=by
 obtain⟨ad,cap,hv⟩:=K.form;obtain⟨n1,hn1⟩:∃n1,h.length=n1:=⟨_,rfl⟩;rw[hn1]at hv hl;subst hv;have HN1:Hid (h.length=n1):=hn1;have HN:Hid (h.length=n+1):=hn;have hn2:n1=n+1:=by omega
 have HK:Hid (KAt B w p room (.slice ad n1 cap) h):=K;have HH:Hid (Hp (n+1) h):=by show Hp _ _;rw[←hn];exact H
 have hml:=zQ8 w p ad n1 cap K.c1;have hms:=zH8 w p ad n1 cap K.c1;have hsub:IntKind.i64.wrap ((n1:Int)-1)=(n:Int):=by rw[IntKind.wrap_i64];omega
 have hsub2:(n1:Int)-1=(n:Int):=by omega
 have HSW:Hid (Calls Tryz.prog 199 #[.slice ad n1 cap,.int .i64 0,.int .i64 n] w fun e w'=>e = .returned (.tuple #[])∧GOwn 52 3 B w' (.slice ad n1 cap) ((swp h 0 n).map cellsM)∧Upd (fun j=>(Value.slice ad n1 cap).ownBlock=some j) w w'):=zL2 B w _ h K.row 0 n (by omega) (by omega) (by omega);clear K H hn hn1 hn2;unfold zGn;go_enter Tryz.func139,Tryz.ntmps139
 go_upto_region 3 with(first
  |(go_at_call 138;refine(zL4 w ad n1 cap).mono ?_;rintro e w2 ⟨rfl,hw2⟩;replace hw2:=hw2.symm;subst hw2)
  |(go_at_call 199;refine HSW.out.mono ?_;rintro e w1 ⟨rfl,hg1,hu1⟩))
 have HK1:Hid (KAt B w1 p room (.slice ad n1 cap) (swp h 0 n)):=HK.out.swapped hg1 hu1;have HU1:Hid (Upd (KF p (.slice ad n1 cap)) w w1):=hu1.mono (fun _ e => .inr e);have HDN:Hid (Calls Tryz.prog 157 #[.iface 188 (.pointer (some ⟨p,1,none⟩)),.int .i64 0,.int .i64 n] w1 fun e w'=>(∃b,e = .returned (.bool b))∧∃h',KAt B w' p room (.slice ad n1 cap) h'∧Upd (KF p (.slice ad n1 cap)) w1 w'∧h'.Perm (swp h 0 n)∧(∀k,n≤k→el h' k=el (swp h 0 n) k)∧Hp n h'):=down_any B w1 p room _ (swp h 0 n) n HK1.out (DnJ.start HN.out HH.out) (by rw[zGj,HN1.out];omega);clear hg1 hu1 hml hms HSW;go_upto_region 4 with(go_at_call 157;refine HDN.out.mono ?_;rintro e w2 ⟨⟨bb,rfl⟩,h2,hK2,hu2,hp2,hk2,hh2⟩)
 have hl2:h2.length=n+1:=by have:=hp2.length_eq;rw[zGj]at this;have:=HN.out;omega
 have hpp:=popped HN.out hp2 (hk2 n (Nat.le_refl _));have HPO:Hid (Calls Tryz.prog 200 #[.pointer (some ⟨p,1,none⟩)] w2 fun e w'=>e = .returned (.iface 52 (valM (el h 0)))∧∃v',KAt B w' p room v' (h2.take n)∧Upd (KF p (.slice ad n1 cap)) w2 w'∧v'.ownBlock=(Value.slice ad n1 cap).ownBlock):=by
  have:=Ppop_any B w2 p room _ h2 n hK2 hl2 (by have:=HN1.out;have:=HN.out;omega);rw[hpp.2]at this;exact this
 have HE:Hid ((el h 0::h2.take n).Perm h∧Hp (h2.take n).length (h2.take n)∧(h2.take n).length=n):=by
  have e:(h2.take n).length=n:=by rw[List.length_take];omega
  exact⟨hpp.1,by rw[e];exact hh2.take,e⟩
 have HU2:Hid (Upd (KF p (.slice ad n1 cap)) w w2):=HU1.out.trans hu2 (fun _ _ f=>f);have hmp:=meth_pop w2 p;clear hK2 hu2 hp2 hk2 hh2 hl2 hpp HDN HU1 HK1;go_wp2_with (go_at_call 200;refine HPO.out.mono ?_;rintro e w3 ⟨rfl,v3,hK3,hu3,hx3⟩);go_ret;exact⟨rfl,v3,h2.take n,hK3,HU2.out.trans hu3 (fun _ _ f=>f),hx3,HE.out⟩
theorem zL8(B:Nat)(w:World)(p:Nat)(room:Int)(v:Value)(h:List Mt)(K:KAt B w p room v h):Calls Tryz.prog 103 #[.pointer (some ⟨p,0,none⟩)] w fun e w'=>e = .returned (.int .i64 h.length)∧w'=w:=by
 obtain⟨ad,cap,hv⟩:=K.form;subst hv;have c1:=K.c1;generalize h.length=n at *;clear K;go_enter Tryz.func103,Tryz.ntmps103;go_wp2_with (go_at_call 138;refine(zL4 w ad n cap).mono ?_;rintro e w2 ⟨rfl,rfl⟩);go_ret;exact⟨rfl,rfl⟩
