import Derived.Test.YthecngkdmnadoaaGreatG03
namespace Go.Proofs.YthecngkdmnadoaaGreat
open Go.RowKit
set_option maxRecDepth 100000
theorem zero_lin(w:World):(zeroValue 94).run Tryz.prog w = .ok (.map none) w:=by kernel_rfl
theorem zero_fin(w:World):(zeroValue 88).run Tryz.prog w = .ok (.map none) w:=by kernel_rfl
theorem zero_vers(w:World):(zeroValue 90).run Tryz.prog w = .ok (.slice none 0 0) w:=by kernel_rfl
def atA{β:Type}(a:Int)(M:List (Int×Nat×β)):Value:=match mget a M with|some x => .map (some x.1)|none => .map none
theorem look_L{w:World}{sh:Sh}(h:Held w sh)(a:Int):(Instr.lookup 70 (.map (some sh.lb)) (.int .u64 a) false).run Tryz.prog w = .ok (atA a sh.L) w:=by
 rw[h.hl.look false Tryz.underlying70 Tryz.underlying22 (zero_lin w) a];unfold atA;cases mget a sh.L<;>rfl
theorem look_F{w:World}{sh:Sh}(h:Held w sh)(a:Int):(Instr.lookup 71 (.map (some sh.fb)) (.int .u64 a) false).run Tryz.prog w = .ok (atA a sh.F) w:=by
 rw[h.hf.look false Tryz.underlying71 Tryz.underlying22 (zero_fin w) a];unfold atA;cases mget a sh.F<;>rfl
def fsAt(sh:Sh)(a n:Int):Value:=match (mget a sh.F).bind fun x=>mget n x.2 with|some x=>fsV x|none => .slice none 0 0
theorem look_Fi{w:World}{sh:Sh}(h:Held w sh)(a n:Int):(Instr.lookup 88 (atA a sh.F) (.int .i64 n) false).run Tryz.prog w = .ok (fsAt sh a n) w:=by
 unfold atA fsAt;cases hm:mget a sh.F with
 |none=>exact look_none false Tryz.underlying88 Tryz.underlying3 (zero_vers w) n
 |some x=>
  have hp:=mem_keys_of_mget hm;show(Instr.lookup 88 (.map (some x.1)) (.int .i64 n) false).run Tryz.prog w=_;rw[(h.hfi _ hp).1.look false Tryz.underlying88 Tryz.underlying3 (zero_vers w) n];simp only[Option.bind_some];cases mget n x.2<;>rfl
def lastT(sh:Sh)(a n:Int):Value:=match lget sh a n with|some v => .tuple #[verV v,.bool true]|none => .tuple #[verV zver,.bool false]
theorem look_Li{w:World}{sh:Sh}(h:Held w sh)(a n:Int):(Instr.lookup 94 (atA a sh.L) (.int .i64 n) true).run Tryz.prog w = .ok (lastT sh a n) w:=by
 unfold atA lastT lget;cases hm:mget a sh.L with
 |none=>exact look_none true Tryz.underlying94 Tryz.underlying3 (zero_ver w) n
 |some x=>
  have hp:=mem_keys_of_mget hm;show(Instr.lookup 94 (.map (some x.1)) (.int .i64 n) true).run Tryz.prog w=_;rw[(h.hli _ hp).1.look true Tryz.underlying94 Tryz.underlying3 (zero_ver w) n];simp only[Option.bind_some];cases mget n x.2<;>rfl
end Go.Proofs.YthecngkdmnadoaaGreat
