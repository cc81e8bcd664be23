/-
  Chapter 18 as the program has it: what is deferred. Chapter 18 as the program has it: the two ways out of a becoming.
-/
import Derived.Test.YtemlagfaaibenaaGreatRepI2
import Derived.Deep.RegionLaw
import Derived.Test.YtemlagfaaibenaaGreatM25
namespace Go.Proofs.YtemlagfaaibenaaGreat.hp
open Go.RowKit rows heads words walks region
set_option maxRecDepth 100000
set_option linter.unusedVariables false
set_option linter.unusedSimpArgs false
structure OpsS (P:Program) (ops:Array Oper) (Q:Exit→Act→List Frame→World→Prop) (l:List Nat) (a:Act) (cs:List Frame) (w:World):Prop where
 out:wpOpsS P ops Q l a cs w
section
variable {P:Program} {Q:Exit→Act→List Frame→World→Prop} {ops:Array Oper} {i:Nat} {rest:List Nat} {a a':Act} {cs cs':List Frame} {w w':World} {o:Oper} {v:Value}
theorem opsS_recover (ho:ops[i]? = some o) (hg:o.guard=none) (hr:(execOp a.eval o).run P w = .ok .recover w') (hc:recoverD cs=some (v,cs')) (ha:a.put o.dst v=a') (h:OpsS P ops Q rest a' cs' w'):OpsS P ops Q (i :: rest) a cs w:=by
 subst ha
 refine⟨?_⟩
 unfold wpOpsS
 simp only[ho]
 rw[if_pos (by simp[Region.wanted,hg]),hr]
 simp only[hc]
 exact h.out
theorem opsS_norecover (ho:ops[i]? = some o) (hg:o.guard=none) (hr:(execOp a.eval o).run P w = .ok .recover w') (hc:recoverD cs=none) (ha:a.put o.dst .nilIface=a') (h:OpsS P ops Q rest a' cs w'):OpsS P ops Q (i :: rest) a cs w:=by
 subst ha
 refine⟨?_⟩
 unfold wpOpsS
 simp only[ho]
 rw[if_pos (by simp[Region.wanted,hg]),hr]
 simp only[hc]
 exact h.out
theorem opsS_value (v:Value) (w':World) (ho:ops[i]? = some o) (hg:o.guard=none) (hr:(execOp a.eval o).run P w = .ok (.value v) w') (ha:a.put o.dst v=a') (h:OpsS P ops Q rest a' cs w'):OpsS P ops Q (i :: rest) a cs w:=by
 subst ha
 refine⟨?_⟩
 unfold wpOpsS
 simp only[ho]
 rw[if_pos (by simp[Region.wanted,hg]),hr]
 exact h.out
theorem opsS_skip (w':World) (ho:ops[i]? = some o) (hg:o.guard=none) (hr:(execOp a.eval o).run P w = .ok .skip w') (ha:a.put o.dst undef=a') (h:OpsS P ops Q rest a' cs w'):OpsS P ops Q (i :: rest) a cs w:=by
 subst ha
 refine⟨?_⟩
 unfold wpOpsS
 simp only[ho]
 rw[if_pos (by simp[Region.wanted,hg]),hr]
 exact h.out
end
theorem ta_nil (w:World):(Instr.typeAssert .nilIface 20 105 true).run Tryz.prog w = .ok (.tuple #[.agg #[.int .i64 0],.bool false]) w:=by kernel_rfl
theorem ta_gave (v:Value) (w:World):(Instr.typeAssert (.iface 105 v) 20 105 true).run Tryz.prog w = .ok (.tuple #[v,.bool true]) w:=by kernel_rfl
set_option maxHeartbeats 4000000 in
theorem becIdle_any (p4 p8 p9:Value) (w:World) :
    CallsD Tryz.prog 78 #[p4,p8,p9] .returning w fun e u' w'=>e = .returned (.tuple #[])∧u' = .returning∧Below w.heap.size w w':=by
 refine callsD_of_wpS Tryz.func78 rfl fun c₀ cs hu => ?_
 have HTA:Hid _:=ta_nil w
 apply wpS_seq
 apply wpS_region
 show wpOpsS _ _ _ [0,1,2,3,4,5,6,7] _ _ _
 refine OpsS.out ?_
 refine opsS_norecover (w':=w) (a':= { tmps:=#[p4,p8,p9,undef,undef,undef,.nilIface,undef,undef,undef,undef,undef,undef,undef,undef],defers:=[] }) rfl rfl (by simp only[execOp];go_simp) (by simp[recoverD,hu]) rfl ?_
 refine opsS_value (a':= { tmps:=#[p4,p8,p9,undef,undef,undef,.nilIface,.tuple #[.agg #[.int .i64 0],.bool false],undef,undef,undef,undef,undef,undef,undef],defers:=[] }) (.tuple #[.agg #[.int .i64 0],.bool false]) w rfl rfl (by simp only[execOp];go_simp;rw[HTA.out];rfl) rfl ?_
 refine opsS_value (a':= { tmps:=#[p4,p8,p9,undef,undef,.tuple #[.agg #[.int .i64 0],.bool false],.nilIface,.tuple #[.agg #[.int .i64 0],.bool false],undef,undef,undef,undef,undef,undef,undef],defers:=[] }) (.tuple #[.agg #[.int .i64 0],.bool false]) w rfl rfl (by simp only[execOp];go_simp) rfl ?_
 refine opsS_value (a':= { tmps:=#[p4,p8,p9,undef,undef,.tuple #[.agg #[.int .i64 0],.bool false],.nilIface,.tuple #[.agg #[.int .i64 0],.bool false],.agg #[.int .i64 0],undef,undef,undef,undef,undef,undef],defers:=[] }) (.agg #[.int .i64 0]) w rfl rfl (by simp only[execOp];go_simp) rfl ?_
 refine opsS_value (a':= { tmps:=#[p4,p8,p9,undef,undef,.tuple #[.agg #[.int .i64 0],.bool false],.nilIface,.tuple #[.agg #[.int .i64 0],.bool false],.agg #[.int .i64 0],.bool false,undef,undef,undef,undef,undef],defers:=[] }) (.bool false) w rfl rfl (by simp only[execOp];go_simp) rfl ?_
 refine opsS_value (a':= { tmps:=#[p4,p8,p9,(.pointer (some ⟨w.heap.size,0,none⟩)),undef,.tuple #[.agg #[.int .i64 0],.bool false],.nilIface,.tuple #[.agg #[.int .i64 0],.bool false],.agg #[.int .i64 0],.bool false,undef,undef,undef,undef,undef],defers:=[] }) (.pointer (some ⟨w.heap.size,0,none⟩)) (w.alloc (.cells #[.int .i64 0] 105)) rfl rfl (by simp only[execOp];go_simp) rfl ?_
 refine opsS_skip (a':= { tmps:=#[p4,p8,p9,(.pointer (some ⟨w.heap.size,0,none⟩)),undef,.tuple #[.agg #[.int .i64 0],.bool false],.nilIface,.tuple #[.agg #[.int .i64 0],.bool false],.agg #[.int .i64 0],.bool false,undef,undef,undef,undef,undef],defers:=[] }) ((w.alloc (.cells #[.int .i64 0] 105)).setCell ⟨w.heap.size,0,none⟩ (.int .i64 0)) rfl rfl (by simp only[execOp];go_simp) rfl ?_
 refine opsS_value (a':= { tmps:=#[p4,p8,p9,(.pointer (some ⟨w.heap.size,0,none⟩)),.bool false,.tuple #[.agg #[.int .i64 0],.bool false],.nilIface,.tuple #[.agg #[.int .i64 0],.bool false],.agg #[.int .i64 0],.bool false,undef,undef,undef,undef,undef],defers:=[] }) (.bool false) ((w.alloc (.cells #[.int .i64 0] 105)).setCell ⟨w.heap.size,0,none⟩ (.int .i64 0)) rfl rfl (by simp only[execOp];go_simp) rfl ?_
 refine⟨?_⟩
 have hb:Below w.heap.size w ((w.alloc (.cells #[.int .i64 0] 105)).setCell ⟨w.heap.size,0,none⟩ (.int .i64 0)):=Below.setCell ((Below.refl _ _).alloc (Nat.le_refl _) _) (Nat.le_refl _) _
 generalize World.setCell _ _ _=V at *
 show Code.wpS _ _ _ _ _ _
 apply wpS_seq
 apply wpS_region
 show wpOpsS _ _ _ [0] _ _ _
 refine OpsS.out ?_
 refine opsS_value (a':= { tmps:=#[p4,p8,p9,(.pointer (some ⟨w.heap.size,0,none⟩)),.bool false,.tuple #[.agg #[.int .i64 0],.bool false],.nilIface,.tuple #[.agg #[.int .i64 0],.bool false],.agg #[.int .i64 0],.bool false,.bool false,undef,undef,undef,undef],defers:=[] }) (.bool false) V rfl rfl (by simp only[execOp];go_simp) rfl ?_
 refine⟨?_⟩
 show Code.wpS _ _ _ _ _ _
 refine wpS_cond (t:=false) rfl ?_
 simp only[Bool.false_eq_true,if_false]
 refine wpS_of_wp (wp_skip ?_)
 refine⟨rfl,.returning,?_,_,results_none rfl _ _ _,rfl,rfl,hb⟩
 cases c₀
 simp_all
theorem hpb_froz {W:World} {b:Nat} {H:Hp} {vr vo vm vs:Value} (h:W.heap[b]? = some (hpb H vr vo vm vs)):W.frozen? ⟨b,0,none⟩=false∧W.frozen? ⟨b,1,none⟩=false∧W.frozen? ⟨b,2,none⟩=false∧W.frozen? ⟨b,3,none⟩=false∧W.frozen? ⟨b,4,none⟩=false∧W.frozen? ⟨b,5,none⟩=false∧W.frozen? ⟨b,6,none⟩=false∧W.frozen? ⟨b,7,none⟩=false∧W.frozen? ⟨b,8,none⟩=false:=by
 simp[World.frozen?, h]
theorem nine_sets_ch (w:World) (b:Nat) (u0 u1 u2 u3 u4 u5 u6 u7 u8:Value):Ch [b] w (((((((((w.setCell ⟨b,0,none⟩ u0).setCell ⟨b,1,none⟩ u1).setCell ⟨b,2,none⟩ u2).setCell ⟨b,3,none⟩ u3).setCell ⟨b,4,none⟩ u4).setCell ⟨b,5,none⟩ u5).setCell ⟨b,6,none⟩ u6).setCell ⟨b,7,none⟩ u7).setCell ⟨b,8,none⟩ u8):=((((((((one_ch _ b 0 u0).trans (one_ch _ b 1 u1)).trans (one_ch _ b 2 u2)).trans (one_ch _ b 3 u3)).trans (one_ch _ b 4 u4)).trans (one_ch _ b 5 u5)).trans (one_ch _ b 6 u6)).trans (one_ch _ b 7 u7)).trans (one_ch _ b 8 u8)
set_option maxHeartbeats 16000000 in
theorem becCatch_any {w:World} {P4 P8 P9:Nat} {H:Hp} {a1 a2 a3 a4:Option Addr} {c1 c2 c3 c4:Nat} (h4:w.heap[P4]? = some (hpb H (.slice a1 H.row.length c1) (.slice a2 H.roots.length c2) (.slice a3 H.mourned.length c3) (.slice a4 H.seen.length c4))) (h8:w.heap[P8]? = some (hpb ⟨0,0,[],0,0,[],[],[],0⟩ (.slice none 0 0) (.slice none 0 0) (.slice none 0 0) (.slice none 0 0))) (h9:w.heap[P9]? = some (.cells #[.int .i64 0] 2)) (hn:P8≠P9)
    (h:HpAt w (.slice a1 H.row.length c1) (.slice a2 H.roots.length c2) (.slice a3 H.mourned.length c3) (.slice a4 H.seen.length c4) H) (hs:hpSize H≤1048576) (c:Int) (older:List PanicEntry) :
    CallsD Tryz.prog 78 #[.pointer (some ⟨P4,0,none⟩),.pointer (some ⟨P8,0,none⟩),.pointer (some ⟨P9,0,none⟩)] (.panicking (gvUp c :: older)) w fun e u' w'=>e = .returned (.tuple #[])∧u' = .panicking ({ v:=.iface 105 (.agg #[.int .i64 c]),recovered:=true } :: older)∧∃o' r' m' s',w'.heap[P8]? = some (hpb H o' r' m' s')∧w'.heap[P9]? = some (.cells #[.int .i64 c] 2)∧OwnH w' w.heap.size o' r' m' s' H∧Ch [P8,P9] w w':=by
 refine callsD_of_wpS Tryz.func78 rfl fun c₀ cs hu => ?_
 obtain⟨c1f,hc1⟩:∃f:Frame,{ c₀ with mode:=.panicking ({ v:=.iface 105 (.agg #[.int .i64 c]),recovered:=true } :: older) }=f:=⟨_,rfl⟩
 have HRC:recoverD (c₀ :: cs)=some (.iface 105 (.agg #[.int .i64 c]),c1f :: cs):=by rw[←hc1];simp[recoverD,hu]
 have HTA:Hid _:=ta_gave (.agg #[.int .i64 c]) w
 have h4l:=lt_of_block h4
 have h8l:=lt_of_block h8
 have h9l:=lt_of_block h9
 generalize hp4:Value.pointer (some ⟨P4,0,none⟩)=p4
 generalize hp8:Value.pointer (some ⟨P8,0,none⟩)=p8
 generalize hp9:Value.pointer (some ⟨P9,0,none⟩)=p9
 apply wpS_seq
 apply wpS_region
 show wpOpsS _ _ _ [0,1,2,3,4,5,6,7] _ _ _
 refine OpsS.out ?_
 refine opsS_recover (w':=w) (a':= { tmps:=#[p4,p8,p9,undef,undef,undef,.iface 105 (.agg #[.int .i64 c]),undef,undef,undef,undef,undef,undef,undef,undef],defers:=[] }) rfl rfl (by simp only[execOp];go_simp) (HRC) rfl ?_
 refine opsS_value (a':= { tmps:=#[p4,p8,p9,undef,undef,undef,.iface 105 (.agg #[.int .i64 c]),.tuple #[.agg #[.int .i64 c],.bool true],undef,undef,undef,undef,undef,undef,undef],defers:=[] }) (.tuple #[.agg #[.int .i64 c],.bool true]) w rfl rfl (by simp only[execOp];go_simp;rw[HTA.out];rfl) rfl ?_
 refine opsS_value (a':= { tmps:=#[p4,p8,p9,undef,undef,.tuple #[.agg #[.int .i64 c],.bool true],.iface 105 (.agg #[.int .i64 c]),.tuple #[.agg #[.int .i64 c],.bool true],undef,undef,undef,undef,undef,undef,undef],defers:=[] }) (.tuple #[.agg #[.int .i64 c],.bool true]) w rfl rfl (by simp only[execOp];go_simp) rfl ?_
 refine opsS_value (a':= { tmps:=#[p4,p8,p9,undef,undef,.tuple #[.agg #[.int .i64 c],.bool true],.iface 105 (.agg #[.int .i64 c]),.tuple #[.agg #[.int .i64 c],.bool true],.agg #[.int .i64 c],undef,undef,undef,undef,undef,undef],defers:=[] }) (.agg #[.int .i64 c]) w rfl rfl (by simp only[execOp];go_simp) rfl ?_
 refine opsS_value (a':= { tmps:=#[p4,p8,p9,undef,undef,.tuple #[.agg #[.int .i64 c],.bool true],.iface 105 (.agg #[.int .i64 c]),.tuple #[.agg #[.int .i64 c],.bool true],.agg #[.int .i64 c],.bool true,undef,undef,undef,undef,undef],defers:=[] }) (.bool true) w rfl rfl (by simp only[execOp];go_simp) rfl ?_
 refine opsS_value (a':= { tmps:=#[p4,p8,p9,(.pointer (some ⟨w.heap.size,0,none⟩)),undef,.tuple #[.agg #[.int .i64 c],.bool true],.iface 105 (.agg #[.int .i64 c]),.tuple #[.agg #[.int .i64 c],.bool true],.agg #[.int .i64 c],.bool true,undef,undef,undef,undef,undef],defers:=[] }) (.pointer (some ⟨w.heap.size,0,none⟩)) (w.alloc (.cells #[.int .i64 0] 105)) rfl rfl (by simp only[execOp];go_simp) rfl ?_
 refine opsS_skip (a':= { tmps:=#[p4,p8,p9,(.pointer (some ⟨w.heap.size,0,none⟩)),undef,.tuple #[.agg #[.int .i64 c],.bool true],.iface 105 (.agg #[.int .i64 c]),.tuple #[.agg #[.int .i64 c],.bool true],.agg #[.int .i64 c],.bool true,undef,undef,undef,undef,undef],defers:=[] }) ((w.alloc (.cells #[.int .i64 0] 105)).setCell ⟨w.heap.size,0,none⟩ (.int .i64 c)) rfl rfl (by simp only[execOp];go_simp) rfl ?_
 refine opsS_value (a':= { tmps:=#[p4,p8,p9,(.pointer (some ⟨w.heap.size,0,none⟩)),.bool true,.tuple #[.agg #[.int .i64 c],.bool true],.iface 105 (.agg #[.int .i64 c]),.tuple #[.agg #[.int .i64 c],.bool true],.agg #[.int .i64 c],.bool true,undef,undef,undef,undef,undef],defers:=[] }) (.bool true) ((w.alloc (.cells #[.int .i64 0] 105)).setCell ⟨w.heap.size,0,none⟩ (.int .i64 c)) rfl rfl (by simp only[execOp];go_simp) rfl ?_
 refine⟨?_⟩
 have hb:Below w.heap.size w ((w.alloc (.cells #[.int .i64 0] 105)).setCell ⟨w.heap.size,0,none⟩ (.int .i64 c)):=Below.setCell ((Below.refl _ _).alloc (Nat.le_refl _) _) (Nat.le_refl _) _
 have h3:((w.alloc (.cells #[.int .i64 0] 105)).setCell ⟨w.heap.size,0,none⟩ (.int .i64 c)).heap[w.heap.size]? = some (.cells #[.int .i64 c] 105):=(cells_setCell (heap_alloc_new w _) 0 _).trans rfl
 generalize World.setCell _ _ _=V at *
 show Code.wpS _ _ _ _ _ _
 apply wpS_seq
 apply wpS_region
 show wpOpsS _ _ _ [0] _ _ _
 refine OpsS.out ?_
 refine opsS_value (a':= { tmps:=#[p4,p8,p9,(.pointer (some ⟨w.heap.size,0,none⟩)),.bool true,.tuple #[.agg #[.int .i64 c],.bool true],.iface 105 (.agg #[.int .i64 c]),.tuple #[.agg #[.int .i64 c],.bool true],.agg #[.int .i64 c],.bool true,.bool true,undef,undef,undef,undef],defers:=[] }) (.bool true) V rfl rfl (by simp only[execOp];go_simp) rfl ?_
 refine⟨?_⟩
 show Code.wpS _ _ _ _ _ _
 refine wpS_cond (t:=true) rfl ?_
 simp only[if_true]
 subst hp4 hp8 hp9
 refine wpS_of_wp (Code.wp_mono (Q:=bodyPost Tryz.prog Tryz.f78 (fun e w'=>e = .returned (.tuple #[])∧∃o' r' m' s',w'.heap[P8]? = some (hpb H o' r' m' s')∧w'.heap[P9]? = some (.cells #[.int .i64 c] 2)∧OwnH w' w.heap.size o' r' m' s' H∧Ch [P8,P9] w w')) ?_ ?_)
 ·intro e a' w' hq
  cases e with
  |normal=>
   obtain⟨hd,v,hr,he,hR⟩:=hq
   exact⟨hd,_,by rw[←hc1],v,hr,he,rfl,hR⟩
  |ret=>
   obtain⟨hd,v,hr,he,hR⟩:=hq
   exact⟨hd,_,by rw[←hc1],v,hr,he,rfl,hR⟩
  |panic ch=>exact absurd hq.2.1 (by simp)
  |outgrown=>exact absurd hq.1 (by simp)
  |exit id=>exact hq.elim
  |goto l=>exact hq.elim
 clear hc1 HRC HTA hu
 obtain⟨n3,hn3⟩:∃n3,w.heap.size=n3:=⟨_,rfl⟩
 have HB:Hid (Below w.heap.size w V):=hb
 have H3:Hid _:=h3
 have HN3:Hid _:=hn3
 have hV8:=(hb.block _ h8l).trans h8
 have hV9:=(hb.block _ h9l).trans h9
 have hV4:=(hb.block _ h4l).trans h4
 have HV8:Hid _:=hV8
 have HL8:Hid (P8<V.heap.size):=Nat.lt_of_lt_of_le h8l hb.size
 have HL9:Hid (P9<V.heap.size):=Nat.lt_of_lt_of_le h9l hb.size
 have HV9:Hid _:=hV9
 have HCP:Hid (∀V',Below V.heap.size V V'→Calls Tryz.prog 29 #[hpv H (.slice a1 H.row.length c1) (.slice a2 H.roots.length c2) (.slice a3 H.mourned.length c3) (.slice a4 H.seen.length c4)] V' fun e w'=>∃g1 g2 g3 g4,e = .returned (hpv H (.slice (some ⟨g1,0,none⟩) H.row.length H.row.length) (.slice (some ⟨g2,0,none⟩) H.roots.length H.roots.length) (.slice (some ⟨g3,0,none⟩) H.mourned.length H.mourned.length) (.slice (some ⟨g4,0,none⟩) H.seen.length H.seen.length))∧OwnH w' w.heap.size (.slice (some ⟨g1,0,none⟩) H.row.length H.row.length) (.slice (some ⟨g2,0,none⟩) H.roots.length H.roots.length) (.slice (some ⟨g3,0,none⟩) H.mourned.length H.mourned.length) (.slice (some ⟨g4,0,none⟩) H.seen.length H.seen.length) H∧Below V.heap.size V w'):=fun V' hV'=>by
  refine (copiedHeap_any (hpAt_below h (hb.trans (hV'.mono hb.size))) hs).mono ?_
  rintro e w' ⟨g1,g2,g3,g4,rfl,O,b⟩
  exact⟨g1,g2,g3,g4,rfl,ownH_base O (Nat.le_trans hb.size hV'.size),hV'.trans (b.mono hV'.size)⟩
 obtain⟨z0,z1,z2,z3,z4,z5,z6,z7,z8⟩:=hpb_cells hV4
 have hne1:¬P8=n3:=by omega
 have hne2:¬P9=n3:=by omega
 have hne3:¬n3=P8:=by omega
 have hne4:¬n3=P9:=by omega
 have hne5:¬P8=P9:=hn
 have hne6:¬P9=P8:=fun e=>hn e.symm
 rw[hn3]at HCP H3 HB ⊢
 have t3:V.cell? ⟨n3,0,none⟩=some (.int .i64 c):=by simp[World.cell?, H3.out]
 clear h hs hb h3 hV8 hV9 hV4 h4 h8 h9
 go_region_law (go_simp;go_at_call 29;refine Calls.mono (HCP.out _ ⟨rfl,rfl,rfl,Nat.le_refl _,fun _ _=>rfl⟩) ?_;rintro e w5 ⟨g1,g2,g3,g4,rfl,O5,b5⟩;have q8:=(b5.block _ HL8.out).trans HV8.out;have q9:=(b5.block _ HL9.out).trans HV9.out;obtain⟨y0,y1,y2,y3,y4,y5,y6,y7,y8⟩:=hpb_cells q8;obtain⟨e0,e1,e2,e3,e4,e5,e6,e7,e8⟩:=hpb_froz q8;have t5:w5.cell? ⟨n3,0,none⟩=some (.int .i64 c):=(by simp[World.cell?, (b5.block _ (lt_of_block H3.out)).trans H3.out]);have y9:w5.cell? ⟨P9,0,none⟩=some (.int .i64 0):=(by simp[World.cell?, q9]);have e9:w5.frozen? ⟨P9,0,none⟩=false:=(by simp[World.frozen?, q9]);have HO5:Hid _:=O5;have HB5:Hid _:=b5;have HQ8:Hid _:=q8;have HQ9:Hid _:=q9;clear O5 b5 q8 q9)
 all_goals
  have N8:=nine_sets HQ8.out (.int .i64 H.half) (.int .i64 H.old) (.slice (some ⟨g1,0,none⟩) H.row.length H.row.length) (.int .i64 H.side) (.int .i64 H.top) (.slice (some ⟨g2,0,none⟩) H.roots.length H.roots.length) (.slice (some ⟨g3,0,none⟩) H.mourned.length H.mourned.length) (.slice (some ⟨g4,0,none⟩) H.seen.length H.seen.length) (.int .i64 H.seed)
  have C8:=nine_sets_ch w5 P8 (.int .i64 H.half) (.int .i64 H.old) (.slice (some ⟨g1,0,none⟩) H.row.length H.row.length) (.int .i64 H.side) (.int .i64 H.top) (.slice (some ⟨g2,0,none⟩) H.roots.length H.roots.length) (.slice (some ⟨g3,0,none⟩) H.mourned.length H.mourned.length) (.slice (some ⟨g4,0,none⟩) H.seen.length H.seen.length) (.int .i64 H.seed)
  generalize (World.setCell (World.setCell (World.setCell (World.setCell (World.setCell (World.setCell (World.setCell (World.setCell (World.setCell w5 _ _) _ _) _ _) _ _) _ _) _ _) _ _) _ _) _ _)=V8 at *
  have C9:Ch [P8,P9] w5 (V8.setCell ⟨P9,0,none⟩ (.int .i64 c)):=(C8.mono (by simp)).trans ((one_ch V8 P9 0 _).mono (by simp))
  have hs5:=HB5.out.size
  have hB:Below n3 w w5:=HB.out.trans (HB5.out.mono (by have:=HB.out.size;omega))
  refine bodyPost_end (results_none rfl _ _ _) rfl ⟨rfl,_,_,_,_,(Below.heap_setCell V8 _ _ P8 hne5).trans N8,(cells_setCell ((C8.block P9 (by have:=lt_of_block HQ9.out;omega) (by simp;exact hne6)).trans HQ9.out) 0 _).trans rfl,ownH_ch HO5.out C9 (fun k hk => ?_),(ch_below (by rw[hn3];exact hB)).trans C9⟩
  have:=(ownH_lt HO5.out k hk).1
  simp
  omega
theorem res_hc {fn:Func} {tmps:Array Value} {X:World} {P8 P9:Nat} {H:Hp} {vr vo vm vs:Value} {c:Int} (hf:fn.results=#[.cell 8 27,.cell 9 2]) (h2:tmps[8]? = some (.pointer (some ⟨P8,0,none⟩))) (h3:tmps[9]? = some (.pointer (some ⟨P9,0,none⟩)))
    (hX:X.heap[P8]? = some (hpb H vr vo vm vs)) (hY:X.heap[P9]? = some (.cells #[.int .i64 c] 2)):(results fn tmps).run Tryz.prog X = .ok (.tuple #[hpv H vr vo vm vs,.int .i64 c]) X:=by
 obtain⟨k0,k1,k2,k3,k4,k5,k6,k7,k8⟩:=hpb_cells hX
 have k9:X.cell? ⟨P9,0,none⟩=some (.int .i64 c):=by simp[World.cell?, hY]
 clear hX hY
 simp[results,hf,h2,h3,go_sem,k0,k1,k2,k3,k4,k5,k6,k7,k8,k9]
def BecR (w:World) (A:Hp) (C:Int) (e:Ending) (w':World):Prop:=∃(o' r' m' s':Value),e = .returned (.tuple #[hpv A o' r' m' s',.int .i64 C])∧OwnH w' w.heap.size o' r' m' s' A∧Below w.heap.size w w'
theorem bec_gave {w W:World} {P4 P8 P9:Nat} {H A:Hp} {a1 a2 a3 a4:Option Addr} {c1 c2 c3 c4:Nat} {tmps:Array Value} {fv:Fn} {cap dargs:Array Value} {c C:Int} (hW:Below w.heap.size w W) (l8:w.heap.size≤P8) (l9:w.heap.size≤P9) (h4:W.heap[P4]? = some (hpb H (.slice a1 H.row.length c1) (.slice a2 H.roots.length c2) (.slice a3 H.mourned.length c3) (.slice a4 H.seen.length c4))) (h8:W.heap[P8]? = some (hpb ⟨0,0,[],0,0,[],[],[],0⟩ (.slice none 0 0) (.slice none 0 0) (.slice none 0 0) (.slice none 0 0))) (h9:W.heap[P9]? = some (.cells #[.int .i64 0] 2)) (hn:P8≠P9)
    (h:HpAt w (.slice a1 H.row.length c1) (.slice a2 H.roots.length c2) (.slice a3 H.mourned.length c3) (.slice a4 H.seen.length c4) H) (hs:hpSize H≤1048576) (hA:A=H) (hC:C=c)
    (t8:tmps[8]? = some (.pointer (some ⟨P8,0,none⟩))) (t9:tmps[9]? = some (.pointer (some ⟨P9,0,none⟩)))
    (hi:(invoke (.fn fv cap) dargs).run Tryz.prog W = .ok (.enter 78 #[.pointer (some ⟨P4,0,none⟩),.pointer (some ⟨P8,0,none⟩),.pointer (some ⟨P9,0,none⟩)]) W) :
    bodyPostD Tryz.prog Tryz.f39 (BecR w A C) (.panic [gvUp c]) { tmps:=tmps,defers:=[{ target:=.fn fv cap,args:=dargs }] } W:=by
 subst hA hC
 refine leaves_cons (f:=78) (args:=#[.pointer (some ⟨P4,0,none⟩),.pointer (some ⟨P8,0,none⟩),.pointer (some ⟨P9,0,none⟩)]) (by simp) hi ?_
 refine (becCatch_any h4 h8 h9 hn (hpAt_below h hW) hs C []).mono ?_
 rintro e u' w'' ⟨rfl,rfl,o',r',m',s',q8,q9,O,hc⟩
 refine⟨_,res_hc rfl t8 t9 q8 q9,o',r',m',s',rfl,ownH_base O hW.size,hW.trans (below_ch hc hW.size (fun k hk => ?_))⟩
 simp at hk
 rcases hk with rfl|rfl
 ·exact l8
 ·exact l9
theorem bec_done {w W:World} {p4:Value} {P8 P9:Nat} {A B:Hp} {o' r' m' s':Value} {tmps:Array Value} {fv:Fn} {cap dargs:Array Value} {c C:Int} (hW:Below w.heap.size w W) (h8:W.heap[P8]? = some (hpb B o' r' m' s')) (h9:W.heap[P9]? = some (.cells #[.int .i64 c] 2)) (hO:OwnH W w.heap.size o' r' m' s' B) (hA:A=B) (hC:C=c)
    (t8:tmps[8]? = some (.pointer (some ⟨P8,0,none⟩))) (t9:tmps[9]? = some (.pointer (some ⟨P9,0,none⟩)))
    (hi:(invoke (.fn fv cap) dargs).run Tryz.prog W = .ok (.enter 78 #[p4,.pointer (some ⟨P8,0,none⟩),.pointer (some ⟨P9,0,none⟩)]) W) :
    Leaves Tryz.prog Tryz.f39 tmps (BecR w A C) [{ target:=.fn fv cap,args:=dargs }] .returning W:=by
 subst hA hC
 refine leaves_cons (f:=78) (args:=#[p4,.pointer (some ⟨P8,0,none⟩),.pointer (some ⟨P9,0,none⟩)]) (by simp) hi ?_
 refine (becIdle_any p4 _ _ W).mono ?_
 rintro e u' w'' ⟨rfl,rfl,hb⟩
 refine⟨_,res_hc rfl t8 t9 ((hb.block _ (lt_of_block h8)).trans h8) ((hb.block _ (lt_of_block h9)).trans h9),o',r',m',s',rfl,ownH_below hO hb,hW.trans (hb.mono hW.size)⟩
theorem rep_own {W V:World} {base b1 B g1 g2 g3 g4 P8 P9 nu:Nat} {H M:Hp} {u:Value} {xs sn:List Int} (O:OwnH W b1 (.slice (some ⟨g1,0,none⟩) H.row.length H.row.length) (.slice (some ⟨g2,0,none⟩) H.roots.length H.roots.length) (.slice (some ⟨g3,0,none⟩) H.mourned.length H.mourned.length) (.slice (some ⟨g4,0,none⟩) H.seen.length H.seen.length) H) (hc:Ch [g1,B,P8,P9] W V) (hB2:g2≠B) (hB3:g3≠B) (h8:P8<b1) (h9:P9<b1) (hF:Full V g1 xs) (hl:xs.length=H.row.length) (hm:xs.length≤maxLen) (e1:M.row=xs) (er:M.roots=H.roots) (em:M.mourned=H.mourned) (es:M.seen=sn) (hbase:base≤b1) (Ou:rows.Own V nu u sn) (hnu:W.heap.size≤nu) :
    OwnH V base (.slice (some ⟨g1,0,none⟩) H.row.length H.row.length) (.slice (some ⟨g2,0,none⟩) H.roots.length H.roots.length) (.slice (some ⟨g3,0,none⟩) H.mourned.length H.mourned.length) u M:=by
 have hd:g1≠g2∧g1≠g3∧g2≠g3:=by
  have:=O.2
  simp[hblk,blk_of]at this
  exact⟨this.1.1,this.1.2.1,this.2.1.1⟩
 have hlt:=ownH_lt O
 have q1:=hlt g1 (in_hblk.1 _ (by rw[blk_of];simp))
 have q2:=hlt g2 (in_hblk.2.1 _ (by rw[blk_of];simp))
 have q3:=hlt g3 (in_hblk.2.2.1 _ (by rw[blk_of];simp))
 have hu:=blk_lt Ou
 have hz:=hc.size
 refine⟨⟨?_,?_,?_,?_⟩,?_⟩
 ·rw[e1,←hl]
  exact full_own hF (by omega) hm
 ·rw[er]
  exact own_base (row_ch O.1.2.1 hc (fun k hk=>by rw[blk_of]at hk;simp at hk ⊢; omega)) hbase
 ·rw[em]
  exact own_base (row_ch O.1.2.2.1 hc (fun k hk=>by rw[blk_of]at hk;simp at hk ⊢; omega)) hbase
 ·rw[es]
  exact own_base Ou (by omega)
 ·unfold hblk
  rw[blk_of,blk_of,blk_of]
  rw[List.nodup_append]
  refine⟨by simp;omega,?_,fun a ha b hb => ?_⟩
  ·unfold blk
   cases u.ownBlock<;>simp
  ·have:=hu b hb
   simp at ha
   omega
end Go.Proofs.YtemlagfaaibenaaGreat.hp
