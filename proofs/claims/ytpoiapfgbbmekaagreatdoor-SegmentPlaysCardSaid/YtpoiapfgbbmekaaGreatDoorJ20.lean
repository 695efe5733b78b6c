/-
  TEXTS JOINED: SegSw, SegK0, SegK1, SegK2, SegK3, SegK4, SegK5. Each one's own words stand at its head.
-/
import Derived.Test.YtpoiapfgbbmekaaGreatDoorJ10
import Derived.Test.YtpoiapfgbbmekaaGreatDoorJ19
import Derived.Test.YtpoiapfgbbmekaaGreatDoorJ18
import Derived.Test.YtpoiapfgbbmekaaGreatDoorJ3
namespace Go.Proofs.YtpoiapfgbbmekaaGreatDoor
open Go Go.RowKit
noncomputable def blkOf (n : Nat) : Code → Option Code
  | .seq a b => match blkOf n a with
    | some c => some c
    | none => blkOf n b
  | .cond _ a b => match blkOf n a with
    | some c => some c
    | none => blkOf n b
  | .block i c => bif Nat.beq i n then some (.block i c) else blkOf n c
  | .loop c => blkOf n c
  | _ => none
noncomputable def swPlays : Code := match Tryz.f3.body with
  | some c => (blkOf 2 c).getD .skip
  | none => .skip
def PQ (N : Act → World → Prop) : Exit → Act → World → Prop
  | .normal, a, w => N a w
  | _, _, _ => False
theorem wp_norm {P : Program} {s : Code} {N : Act → World → Prop} {Q' : Exit → Act → World → Prop} {a : Act} {w : World} (h : s.wp P (PQ N) a w) : s.wp P (Exit.then N Q') a w :=
  wp_mono h fun e a' w' hq => by
    cases e with
    | normal => exact hq
    | _ => exact hq.elim
theorem ext_kin {W w : World} {M : Nat → Bool} (h : Ext noF W w M) : Kin W (mask M w) := by
  have := h.kin; rwa [mask_none] at this
theorem ext_kinw {W w : World} {M : Nat → Bool} (h : Ext noF W w M) : Kin W w := (ext_kin h).trans (unmask M w)
theorem get_few {d : AD} (hg : Good d) (s : ByteArray) : ((d.get s).n : Int) ≤ 1000000000 := by
  unfold AD.get
  cases hq : d.L[idxN d.L s]? with
  | none => simp [newF]
  | some f => have := (hg.file f (List.mem_of_getElem? hq)).n64; show ((f.n : Nat) : Int) ≤ 1000000000; omega
set_option maxRecDepth 8000 in
theorem splays_says0 {DK : World → Addr → (Nat → Bool) → AD → Prop} (H : DiskSays DK) (W : World) (d : AD) (x : Hdr) (hxt : HdT x) (HG : Hid (Good d)) (HV0 : Hid (VT W)) :
    ∃ (d' : AD) (er : Int), Hid (Good d') ∧
    Hid (∀ w p F, DK w p F d → Ext noF W w F → Calls Tryz.prog 9 #[ptr p, .agg (hv x)] w fun e w' => ∃ F', e = .returned (.int .i64 er) ∧ DK w' p F' d' ∧ Ext F w w' F') ∧
    Hid (∀ M w v, Foot M w.heap.size → RD (mask M w) v d → Ext noF W w M → Calls Tryz.prog 10 #[v, .agg (hv x)] w fun e w' => ∃ v', e = .returned (.tuple #[v', .int .i64 er]) ∧ RD (mask M w') v' d' ∧ Below w.heap.size w w') :=
  ⟨(d.beginR x).1, (d.beginR x).2, Lib.hid (HG.out.begin hxt), Lib.hid fun w p F h hx => sbegin_any H W w p F d x h HG.out HV0.out hx hxt, Lib.hid fun M w v h1 h2 _ => rbegin_any M v d x w h1 h2 HG.out hxt⟩
set_option maxRecDepth 8000 in
theorem splays_says2 {DK : World → Addr → (Nat → Bool) → AD → Prop} (H : DiskSays DK) (W : World) (d : AD) (nm : ByteArray) (hnm : nm.size ≤ 281474976710656) (x : Hdr) (hxt : HdT x) (al : Option Addr) (m cl : Nat) (fs : List Int) (hfs : FS W (.slice al m cl) m fs) (hfb : Bytes fs) (hm : m ≤ 40) (HG : Hid (Good d)) (HV0 : Hid (VT W)) :
    ∃ (d' : AD) (er : Int), Hid (Good d') ∧
    Hid (∀ w p F, DK w p F d → Ext noF W w F → Calls Tryz.prog 11 #[ptr p, .string nm, .agg (hv x), .slice al m cl] w fun e w' => ∃ F', e = .returned (.int .i64 er) ∧ DK w' p F' d' ∧ Ext F w w' F') ∧
    Hid (∀ M w v, Foot M w.heap.size → RD (mask M w) v d → Ext noF W w M → Calls Tryz.prog 12 #[v, .string nm, .agg (hv x), .slice al m cl] w fun e w' => ∃ v', e = .returned (.tuple #[v', .int .i64 er]) ∧ RD (mask M w') v' d' ∧ Below w.heap.size w w') :=
  ⟨(d.prepR nm x m fs).1, (d.prepR nm x m fs).2, Lib.hid (HG.out.prep nm hxt hfs.length hfb), Lib.hid fun w p F h hx => sprep_any H W w p F d nm x _ m fs h HG.out HV0.out hx hnm hxt (hfs.kin (ext_kinw hx)) hfb (by omega), Lib.hid fun M w v h1 h2 h3 => rprep_any M v d nm x _ m fs w h1 h2 HG.out hxt (hfs.kin (ext_kinw h3)) (by omega) hfb⟩
set_option maxRecDepth 8000 in
theorem splays_says3 {DK : World → Addr → (Nat → Bool) → AD → Prop} (H : DiskSays DK) (W : World) (d : AD) (nm : ByteArray) (hnm : nm.size ≤ 281474976710656) (k : Int) (hk63 : I63 k) (HG : Hid (Good d)) (_HV0 : Hid (VT W)) :
    ∃ (d' : AD) (er : Int), Hid (Good d') ∧
    Hid (∀ w p F, DK w p F d → Ext noF W w F → Calls Tryz.prog 13 #[ptr p, .string nm, .int .i64 k] w fun e w' => ∃ F', e = .returned (.int .i64 er) ∧ DK w' p F' d' ∧ Ext F w w' F') ∧
    Hid (∀ M w v, Foot M w.heap.size → RD (mask M w) v d → Ext noF W w M → Calls Tryz.prog 14 #[v, .string nm, .int .i64 k] w fun e w' => ∃ v', e = .returned (.tuple #[v', .int .i64 er]) ∧ RD (mask M w') v' d' ∧ Below w.heap.size w w') :=
  ⟨(d.makeR nm k).1, (d.makeR nm k).2, Lib.hid (HG.out.make nm k), Lib.hid fun w p F h _ => H.make w p F d nm k h HG.out hnm hk63, Lib.hid fun M w v h1 h2 _ => rmake_any M v d nm k w h1 h2 (by have := HG.out.few; omega) (by have := HG.out.used; have := HG.out.cap1; omega) hnm hk63⟩
set_option maxRecDepth 8000 in
theorem splays_says4 {DK : World → Addr → (Nat → Bool) → AD → Prop} (H : DiskSays DK) (W : World) (d : AD) (k : Int) (hk63 : I63 k) (HG : Hid (Good d)) (_HV0 : Hid (VT W)) :
    ∃ (d' : AD) (er : Int), Hid (Good d') ∧
    Hid (∀ w p F, DK w p F d → Ext noF W w F → Calls Tryz.prog 15 #[ptr p, .int .i64 k] w fun e w' => ∃ F', e = .returned (.int .i64 er) ∧ DK w' p F' d' ∧ Ext F w w' F') ∧
    Hid (∀ M w v, Foot M w.heap.size → RD (mask M w) v d → Ext noF W w M → Calls Tryz.prog 16 #[v, .int .i64 k] w fun e w' => ∃ v', e = .returned (.tuple #[v', .int .i64 er]) ∧ RD (mask M w') v' d' ∧ Below w.heap.size w w') :=
  ⟨(d.failR k).1, (d.failR k).2, Lib.hid (HG.out.fail k hk63), Lib.hid fun w p F h _ => H.fail w p F d k h HG.out hk63, Lib.hid fun M w v h1 h2 _ => rfail_any M v d k w h1 h2⟩
set_option maxRecDepth 8000 in
theorem splays_says5 {DK : World → Addr → (Nat → Bool) → AD → Prop} (H : DiskSays DK) (W : World) (d : AD) (ak : Option Addr) (kl ck : Nat) (kb : List Int) (hri : RI .u8 W (.slice ak kl ck) kl kb) (hkb : Bytes kb) (tq cu : Int) (htq : I63 tq) (hcu : I63 cu) (HG : Hid (Good d)) :
    ∃ d' : AD, Hid (Good d') ∧
    Hid (∀ w p F, DK w p F d → Ext noF W w F → Calls Tryz.prog 17 #[ptr p, .agg #[.slice ak kl ck, .int .i64 tq, .int .i64 cu]] w fun e w' => ∃ F', e = .returned (.tuple #[]) ∧ DK w' p F' d' ∧ Ext F w w' F') ∧
    Hid (∀ M w v, Foot M w.heap.size → RD (mask M w) v d → Ext noF W w M → Calls Tryz.prog 18 #[v, .agg #[.slice ak kl ck, .int .i64 tq, .int .i64 cu]] w fun e w' => ∃ v', e = .returned v' ∧ RD (mask M w') v' d' ∧ Below w.heap.size w w') :=
  ⟨(d.crashR kb tq cu), Lib.hid (HG.out.crash kb tq cu), Lib.hid fun w p F h hx => H.crash w p F d _ kl kb tq cu h HG.out (hri.kin (ext_kin hx)) hkb htq hcu, Lib.hid fun M w v h1 h2 h3 => rcrash_any M v d _ kl kb tq cu w h1 h2 (hri.kin (ext_kin h3)) hkb htq hcu (by have := HG.out.few; omega) (by have := HG.out.used; have := HG.out.cap1; omega)⟩
set_option maxRecDepth 8000 in
theorem splays_says6 {DK : World → Addr → (Nat → Bool) → AD → Prop} (H : DiskSays DK) (W : World) (d : AD) (nm : ByteArray) (hnm : nm.size ≤ 281474976710656) (k : Int) (hk63 : I63 k) (al : Option Addr) (m cl : Nat) (fs : List Int) (hfs : FS W (.slice al m cl) m fs) (hfb : Bytes fs) (hm : m ≤ 40) (HG : Hid (Good d)) (_HV0 : Hid (VT W)) :
    ∃ (d' : AD) (er : Int), Hid (Good d') ∧
    Hid (∀ w p F, DK w p F d → Ext noF W w F → Calls Tryz.prog 19 #[ptr p, .string nm, .int .i64 k, .slice al m cl] w fun e w' => ∃ F', e = .returned (.int .i64 er) ∧ DK w' p F' d' ∧ Ext F w w' F') ∧
    Hid (∀ M w v, Foot M w.heap.size → RD (mask M w) v d → Ext noF W w M → Calls Tryz.prog 20 #[v, .string nm, .int .i64 k, .slice al m cl] w fun e w' => ∃ v', e = .returned (.tuple #[v', .int .i64 er]) ∧ RD (mask M w') v' d' ∧ Below w.heap.size w w') :=
  ⟨(d.writeR nm k m fs).1, (d.writeR nm k m fs).2, Lib.hid (HG.out.write nm k m fs hfs.length hfb), Lib.hid fun w p F h hx => H.write w p F d nm k _ m fs h HG.out hnm hk63 (hfs.kin (ext_kin hx)) hfb (by omega), Lib.hid fun M w v h1 h2 h3 => rwrite_any M v d nm k _ m fs w h1 h2 (hfs.kin (ext_kin h3)) (by have := HG.out.few; omega) hk63 (by omega) (get_few HG.out nm)⟩
def SwSays (q : Int) : Prop := ∀ {DK : World → Addr → (Nat → Bool) → AD → Prop} (_ : DiskSays DK) (W : World) (c : Int) (b off n cap i g : Nat) (al : Option Addr) (cl : Nat) (ak : Option Addr) (ck : Nat) (p : Addr) (d : AD) (cs : Array Value) (F M : Nat → Bool) (wr : World) (x : SAct)
    (_ : SC W b (off + i * 14) al cl ak ck x) (_ : FS W (.slice al x.m cl) x.m x.fs) (_ : RI .u8 W (.slice ak x.klen ck) x.klen x.kb) (_ : GSA x) (_ : x.m ≤ 40) (_ : Hid (VT W)) (_ : Hid (PT DK W p g d d cs F M wr)) (_ : Hid (Good d)) (_ : Hid (cs.size = 6)) (_ : (i : Int) < (n : Int)) (_ : x.kind.tmod 7 = q)
    (t2 t3 t4 t10 t11 t12 t13 t14 t15 t16 t17 t18 t19 t20 t21 t22 t23 t24 t25 t26 t27 t28 t29 t30 t31 t32 t33 t34 t35 t36 t38 t39 t40 t41 t42 t43 t44 t45 t46 t47 t48 t49 t50 t51 t52 t53 t54 t55 t56 t57 t58 t59 t60 t61 t62 t63 t64 t65 t66 t67 t68 t69 t70 t71 t72 t73 t74 t75 t76 t77 t78 t79 t80 t81 t82 t83 t84 t85 t86 t87 t88 t89 t90 t91 t92 t93 t94 t95 t96 t97 t98 t99 t100 t101 t102 t103 t104 t105 t106 t107 t108 t109 t110 t111 t112 t113 t114 t115 t116 t117 t118 t119 t120 t121 t122 t123 t124 t125 t126 t127 t128 t129 t130 t131 t132 t133 t134 t135 t136 t137 t138 t139 t140 t141 t142 t143 t144 t145 t146 t147 t148 t149 t150 t151 t152 t153 t154 t155 t156 t157 t158 t159 t160 t161 t162 t163 t164 t165 t166 t167 t168 t169 t170 t171 t172 t173 t174 t175 t176 t177 t178 t179 t180 t181 t182 t183 t184 t185 t186 t187 t188 t189 t190 t191 t192 t193 t194 t195 t196 t197 t198 t199 t200 t201 t202 t203 t204 t205 t206 t207 : Value) (N : Act → World → Prop)
    (_ : ∀ (er : Int) (d' : AD) (cs2 : Array Value) (F2 M2 : Nat → Bool) (v37 v38 v39 v40 v41 v42 v43 v44 v45 v46 v47 v48 v49 v50 v51 v52 v53 v54 v55 v56 v57 v58 v59 v60 v61 v62 v63 v64 v65 v66 v67 v68 v69 v70 v71 v72 v73 v74 v75 v76 v77 v78 v79 v80 v81 v82 v83 v84 v85 v86 v87 v88 v89 v90 v91 v92 v93 v94 v95 v96 v97 v98 v99 v100 v101 v102 v103 v104 v105 v106 v107 v108 v109 v110 v111 v112 v113 v114 v115 v116 v117 v118 v119 v120 v121 v122 v123 v124 v125 v126 v127 v128 v129 v130 v131 v132 v133 v134 v135 v136 v137 v138 v139 v140 v141 v142 v143 v144 v145 v146 v147 v148 v149 v150 v151 v152 v153 v154 v155 v156 v157 v158 v159 v160 v161 v162 v163 v164 v165 v166 v167 v168 v169 v170 v171 v172 v173 v174 v175 v176 v177 v178 v179 v180 v181 v182 v183 v184 v185 v186 v187 v188 v189 v190 v191 v192 v193 v194 v195 v196 v197 : Value) (w' : World), Hid (PT DK W p g d' d' cs2 F2 M2 w') → Hid (Good d') → Hid (cs2.size = 6) → Hid (cs2.all (·.oneCell') = true) → N { tmps := #[.int .i64 c, .slice (some ⟨b, off, none⟩) n cap, t2, t3, t4, ptr p, .pointer (some ⟨g, 0, none⟩), .int .i64 (i : Int), .int .i64 er, .int .i64 er, t10, t11, t12, t13, t14, t15, t16, t17, t18, t19, t20, t21, t22, t23, t24, t25, t26, t27, t28, t29, t30, t31, t32, t33, t34, t35, t36, v37, v38, v39, v40, v41, v42, v43, v44, v45, v46, v47, v48, v49, v50, v51, v52, v53, v54, v55, v56, v57, v58, v59, v60, v61, v62, v63, v64, v65, v66, v67, v68, v69, v70, v71, v72, v73, v74, v75, v76, v77, v78, v79, v80, v81, v82, v83, v84, v85, v86, v87, v88, v89, v90, v91, v92, v93, v94, v95, v96, v97, v98, v99, v100, v101, v102, v103, v104, v105, v106, v107, v108, v109, v110, v111, v112, v113, v114, v115, v116, v117, v118, v119, v120, v121, v122, v123, v124, v125, v126, v127, v128, v129, v130, v131, v132, v133, v134, v135, v136, v137, v138, v139, v140, v141, v142, v143, v144, v145, v146, v147, v148, v149, v150, v151, v152, v153, v154, v155, v156, v157, v158, v159, v160, v161, v162, v163, v164, v165, v166, v167, v168, v169, v170, v171, v172, v173, v174, v175, v176, v177, v178, v179, v180, v181, v182, v183, v184, v185, v186, v187, v188, v189, v190, v191, v192, v193, v194, v195, v196, v197, t198, t199, t200, t201, t202, t203, t204, t205, t206, t207], defers := [] } w'),
    Code.wp Tryz.prog swPlays (PQ N) { tmps := #[.int .i64 c, .slice (some ⟨b, off, none⟩) n cap, t2, t3, t4, ptr p, .pointer (some ⟨g, 0, none⟩), .int .i64 (i : Int), .int .i64 0, .int .i64 0, t10, t11, t12, t13, t14, t15, t16, t17, t18, t19, t20, t21, t22, t23, t24, t25, t26, t27, t28, t29, t30, t31, t32, t33, t34, t35, t36, .int .u64 (x.kind.tmod 7), t38, t39, t40, t41, t42, t43, t44, t45, t46, t47, t48, t49, t50, t51, t52, t53, t54, t55, t56, t57, t58, t59, t60, t61, t62, t63, t64, t65, t66, t67, t68, t69, t70, t71, t72, t73, t74, t75, t76, t77, t78, t79, t80, t81, t82, t83, t84, t85, t86, t87, t88, t89, t90, t91, t92, t93, t94, t95, t96, t97, t98, t99, t100, t101, t102, t103, t104, t105, t106, t107, t108, t109, t110, t111, t112, t113, t114, t115, t116, t117, t118, t119, t120, t121, t122, t123, t124, t125, t126, t127, t128, t129, t130, t131, t132, t133, t134, t135, t136, t137, t138, t139, t140, t141, t142, t143, t144, t145, t146, t147, t148, t149, t150, t151, t152, t153, t154, t155, t156, t157, t158, t159, t160, t161, t162, t163, t164, t165, t166, t167, t168, t169, t170, t171, t172, t173, t174, t175, t176, t177, t178, t179, t180, t181, t182, t183, t184, t185, t186, t187, t188, t189, t190, t191, t192, t193, t194, t195, t196, t197, t198, t199, t200, t201, t202, t203, t204, t205, t206, t207], defers := [] } wr
end Go.Proofs.YtpoiapfgbbmekaaGreatDoor
namespace Go.Proofs.YtpoiapfgbbmekaaGreatDoor
open Go Go.RowKit
set_option maxRecDepth 8000 in
set_option maxHeartbeats 8000000 in
theorem splays_k0 : SwSays 0 := by
  intro DK H W c b off n cap i g al cl ak ck p d cs F M wr x hsc hfs hri hgx hm40 HV0 HP HG H6 hlt hk
  intros
  rename_i N hQ
  have hH := Lib.hid H
  have HQ := Lib.hid hQ
  have HSC := Lib.hid (hsc.kin HP.out.kinw)
  obtain ⟨kd, nm, k, xh, m, fs, kl, kb, tq, cu⟩ := x
  have HCX := Lib.hid hsc
  have hnm := hgx.name
  have hk63 := hgx.n
  have hxt := hgx.h
  have hfb := hgx.fs
  have hkb := hgx.kb
  have htq := hgx.torn
  have hcu := hgx.cut
  simp only at hfs hri hnm hk63 hxt hfb hkb htq hcu hk hm40 HQ
  obtain ⟨y0, y1, y2, yh, y10, y11, y12, y13⟩ := HSC.out
  have HYH := Lib.hid yh
  simp only at y0 y1 y2 y10 y11 y12 y13
  clear hQ hsc hgx yh
  focus
        obtain ⟨d', er, HG2, HPR, HRF⟩ := splays_says0 H W d xh hxt HG HV0
        clear hfs hri hnm hk63 hxt hfb hkb htq hcu
        rw [show swPlays = Code.block 2 _ from rfl]
        go_wp2_with (first
          | (refine wpl_load_hat (by rfl) (.tmp 82) rfl rfl HYH.out ?_)
          | (go_at_call 9; (with_reducible refine (HPR.out _ _ _ HP.out.dk HP.out.ex).mono ?_); rintro e w1 ⟨F1, rfl, hk1, hx1⟩; have HP1 := Lib.hid (HP.out.prog hH.out hk1 hx1); clear hk1 hx1))
        have HPD := Lib.hid (HP1.out.next hH.out (Below.refl _ _).drew)
        refine wp_region_held_drew (S := (fun W' => Kin W W')) (by kernel_rfl) HPD.out.kinw (fun hS => ?_)
        refine rgw 1 ⟨some 87, .move (.tmp 1), 22, _, _, none⟩ hS ?_
        refine rgw 2 ⟨some 88, .move (.tmp 7), 3, _, _, none⟩ hS ?_
        refine rgw 3 ⟨some 89, .indexAddr 22 (.tmp 87) (.tmp 88), 0, _, _, none⟩ hS ?_
        refine rgw 4 ⟨some 90, .fieldAddr 40 (.tmp 89) 3, 0, _, _, none⟩ hS ?_
        refine rgw 5 ⟨some 91, .load 34 (.tmp 90), 34, _, _, none⟩ hS ?_ (hy := by intro w hSw; (try dsimp only at hSw); refine exec_load_hat (.tmp 90) ?_ ?_ (HCX.out.kin hSw).h <;> rfl)
        refine rg_one 0 ⟨some 86, .load 28 (.tmp 6), 28, _, _, none⟩ (by kernel_rfl) rfl (fun K hK => ?_)
        rw [if_pos (by rfl)]; refine wp_load_row 28 (.tmp 6) rfl g rfl _ cs (0, 0) _ HPD.out.db.1 Tryz.underlying28 rfl HPD.out.db.info ?_
        refine hK.out _ _ ?_ (fun hS1 => ?_)
        · (first | exact hN | exact hS | exact hS.trans (Kin.below hb))
        clear hK K hS; have hS := hS1; clear hS1
        (try simp only [rgp])
        refine rg_one 6 ⟨some 92, .call { callee := .value (.func 10), args := #[.tmp 86, .tmp 91], argTypes := #[28, 34] }, 43, _, _, none⟩ (by kernel_rfl) rfl (fun K hK => ?_)
        go_simp
        (go_at_call 10; (with_reducible refine (HRF.out _ _ _ HPD.out.foot HPD.out.rd HPD.out.exm).mono ?_); rintro e w2 ⟨v2, rfl, hr2, hb⟩; obtain ⟨cs2, rfl, h62, h12⟩ := hr2.cells; have HP2 := Lib.hid (HPD.out.next hH.out hb); have HR2 := Lib.hid hr2; have HC6 := Lib.hid h62; have HC1 := Lib.hid h12; have hN := HP2.out.kinw; clear hr2 h62 h12)
        refine hK.out _ _ ?_ (fun hS1 => ?_)
        · (first | exact hN | exact hS | exact hS.trans (Kin.below hb))
        clear hK K hS; have hS := hS1; clear hS1
        (try simp only [rgp])
        refine rgw 7 ⟨some 85, .move (.tmp 92), 43, _, _, none⟩ hS ?_
        refine rgw 8 ⟨some 93, .extract (.tmp 85) 0, 28, _, _, none⟩ hS ?_
        refine rgw 9 ⟨some 94, .extract (.tmp 85) 1, 41, _, _, none⟩ hS ?_
        refine rg_one 10 ⟨none, .store 28 (.tmp 6) (.tmp 93), 0, _, _, none⟩ (by kernel_rfl) rfl (fun K hK => ?_)
        rw [if_pos (by rfl)]; refine wp_store_row 28 (.tmp 6) (.tmp 93) rfl g cs2 rfl rfl _ cs HP2.out.db.1 (by rw [HC6.out]; exact disk_info) (by rw [HC6.out, H6.out]) HC1.out ?_; have HP3 := Lib.hid (HP2.out.put hH.out HR2.out HC6.out); (try clear hN); have hN := HP3.out.kinw
        refine hK.out _ _ ?_ (fun hS1 => ?_)
        · (first | exact hN | exact hS | exact hS.trans (Kin.below hb))
        clear hK K hS; have hS := hS1; clear hS1
        (try simp only [Act.put])
        refine rgw 11 ⟨some 9, .assign (.tmp 94), 41, _, _, none⟩ hS ?_
        refine wpAnyH_done (by kernel_rfl) ?_ _
        clear hS hN
        (try go_wp2_with fail)
        exact HQ.out er d' cs2 _ _ _ _ _ _ _ _ _ _ _ _ _ _ _ _ _ _ _ _ _ _ _ _ _ _ _ _ _ _ _ _ _ _ _ _ _ _ _ _ _ _ _ _ _ _ _ _ _ _ _ _ _ _ _ _ _ _ _ _ _ _ _ _ _ _ _ _ _ _ _ _ _ _ _ _ _ _ _ _ _ _ _ _ _ _ _ _ _ _ _ _ _ _ _ _ _ _ _ _ _ _ _ _ _ _ _ _ _ _ _ _ _ _ _ _ _ _ _ _ _ _ _ _ _ _ _ _ _ _ _ _ _ _ _ _ _ _ _ _ _ _ _ _ _ _ _ _ _ _ _ _ _ _ _ _ _ _ _ _ _ _ _ _ HP3 HG2 HC6 HC1
end Go.Proofs.YtpoiapfgbbmekaaGreatDoor
namespace Go.Proofs.YtpoiapfgbbmekaaGreatDoor
open Go Go.RowKit
set_option maxRecDepth 8000 in
set_option maxHeartbeats 8000000 in
theorem splays_k1 : SwSays 1 := by
  intro DK H W c b off n cap i g al cl ak ck p d cs F M wr x hsc hfs hri hgx hm40 HV0 HP HG H6 hlt hk
  intros
  rename_i N hQ
  have hH := Lib.hid H
  have HQ := Lib.hid hQ
  have HSC := Lib.hid (hsc.kin HP.out.kinw)
  obtain ⟨kd, nm, k, xh, m, fs, kl, kb, tq, cu⟩ := x
  have HCX := Lib.hid hsc
  have hnm := hgx.name
  have hk63 := hgx.n
  have hxt := hgx.h
  have hfb := hgx.fs
  have hkb := hgx.kb
  have htq := hgx.torn
  have hcu := hgx.cut
  simp only at hfs hri hnm hk63 hxt hfb hkb htq hcu hk hm40 HQ
  obtain ⟨y0, y1, y2, yh, y10, y11, y12, y13⟩ := HSC.out
  have HYH := Lib.hid yh
  simp only at y0 y1 y2 y10 y11 y12 y13
  clear hQ hsc hgx yh
  focus
        obtain ⟨d', er, HG2, HPR, HRF⟩ := splays_says0 H W d xh hxt HG HV0
        clear hfs hri hnm hk63 hxt hfb hkb htq hcu
        rw [show swPlays = Code.block 2 _ from rfl]
        go_wp2_with (first
          | (refine wpl_load_hat (by rfl) (.tmp 82) rfl rfl HYH.out ?_)
          | (go_at_call 9; (with_reducible refine (HPR.out _ _ _ HP.out.dk HP.out.ex).mono ?_); rintro e w1 ⟨F1, rfl, hk1, hx1⟩; have HP1 := Lib.hid (HP.out.prog hH.out hk1 hx1); clear hk1 hx1))
        have HPD := Lib.hid (HP1.out.next hH.out (Below.refl _ _).drew)
        refine wp_region_held_drew (S := (fun W' => Kin W W')) (by kernel_rfl) HPD.out.kinw (fun hS => ?_)
        refine rgw 1 ⟨some 87, .move (.tmp 1), 22, _, _, none⟩ hS ?_
        refine rgw 2 ⟨some 88, .move (.tmp 7), 3, _, _, none⟩ hS ?_
        refine rgw 3 ⟨some 89, .indexAddr 22 (.tmp 87) (.tmp 88), 0, _, _, none⟩ hS ?_
        refine rgw 4 ⟨some 90, .fieldAddr 40 (.tmp 89) 3, 0, _, _, none⟩ hS ?_
        refine rgw 5 ⟨some 91, .load 34 (.tmp 90), 34, _, _, none⟩ hS ?_ (hy := by intro w hSw; (try dsimp only at hSw); refine exec_load_hat (.tmp 90) ?_ ?_ (HCX.out.kin hSw).h <;> rfl)
        refine rg_one 0 ⟨some 86, .load 28 (.tmp 6), 28, _, _, none⟩ (by kernel_rfl) rfl (fun K hK => ?_)
        rw [if_pos (by rfl)]; refine wp_load_row 28 (.tmp 6) rfl g rfl _ cs (0, 0) _ HPD.out.db.1 Tryz.underlying28 rfl HPD.out.db.info ?_
        refine hK.out _ _ ?_ (fun hS1 => ?_)
        · (first | exact hN | exact hS | exact hS.trans (Kin.below hb))
        clear hK K hS; have hS := hS1; clear hS1
        (try simp only [rgp])
        refine rg_one 6 ⟨some 92, .call { callee := .value (.func 10), args := #[.tmp 86, .tmp 91], argTypes := #[28, 34] }, 43, _, _, none⟩ (by kernel_rfl) rfl (fun K hK => ?_)
        go_simp
        (go_at_call 10; (with_reducible refine (HRF.out _ _ _ HPD.out.foot HPD.out.rd HPD.out.exm).mono ?_); rintro e w2 ⟨v2, rfl, hr2, hb⟩; obtain ⟨cs2, rfl, h62, h12⟩ := hr2.cells; have HP2 := Lib.hid (HPD.out.next hH.out hb); have HR2 := Lib.hid hr2; have HC6 := Lib.hid h62; have HC1 := Lib.hid h12; have hN := HP2.out.kinw; clear hr2 h62 h12)
        refine hK.out _ _ ?_ (fun hS1 => ?_)
        · (first | exact hN | exact hS | exact hS.trans (Kin.below hb))
        clear hK K hS; have hS := hS1; clear hS1
        (try simp only [rgp])
        refine rgw 7 ⟨some 85, .move (.tmp 92), 43, _, _, none⟩ hS ?_
        refine rgw 8 ⟨some 93, .extract (.tmp 85) 0, 28, _, _, none⟩ hS ?_
        refine rgw 9 ⟨some 94, .extract (.tmp 85) 1, 41, _, _, none⟩ hS ?_
        refine rg_one 10 ⟨none, .store 28 (.tmp 6) (.tmp 93), 0, _, _, none⟩ (by kernel_rfl) rfl (fun K hK => ?_)
        rw [if_pos (by rfl)]; refine wp_store_row 28 (.tmp 6) (.tmp 93) rfl g cs2 rfl rfl _ cs HP2.out.db.1 (by rw [HC6.out]; exact disk_info) (by rw [HC6.out, H6.out]) HC1.out ?_; have HP3 := Lib.hid (HP2.out.put hH.out HR2.out HC6.out); (try clear hN); have hN := HP3.out.kinw
        refine hK.out _ _ ?_ (fun hS1 => ?_)
        · (first | exact hN | exact hS | exact hS.trans (Kin.below hb))
        clear hK K hS; have hS := hS1; clear hS1
        (try simp only [Act.put])
        refine rgw 11 ⟨some 9, .assign (.tmp 94), 41, _, _, none⟩ hS ?_
        refine wpAnyH_done (by kernel_rfl) ?_ _
        clear hS hN
        (try go_wp2_with fail)
        exact HQ.out er d' cs2 _ _ _ _ _ _ _ _ _ _ _ _ _ _ _ _ _ _ _ _ _ _ _ _ _ _ _ _ _ _ _ _ _ _ _ _ _ _ _ _ _ _ _ _ _ _ _ _ _ _ _ _ _ _ _ _ _ _ _ _ _ _ _ _ _ _ _ _ _ _ _ _ _ _ _ _ _ _ _ _ _ _ _ _ _ _ _ _ _ _ _ _ _ _ _ _ _ _ _ _ _ _ _ _ _ _ _ _ _ _ _ _ _ _ _ _ _ _ _ _ _ _ _ _ _ _ _ _ _ _ _ _ _ _ _ _ _ _ _ _ _ _ _ _ _ _ _ _ _ _ _ _ _ _ _ _ _ _ _ _ _ _ _ _ HP3 HG2 HC6 HC1
end Go.Proofs.YtpoiapfgbbmekaaGreatDoor
namespace Go.Proofs.YtpoiapfgbbmekaaGreatDoor
open Go Go.RowKit
set_option maxRecDepth 8000 in
set_option maxHeartbeats 8000000 in
theorem splays_k2 : SwSays 2 := by
  intro DK H W c b off n cap i g al cl ak ck p d cs F M wr x hsc hfs hri hgx hm40 HV0 HP HG H6 hlt hk
  intros
  rename_i N hQ
  have hH := Lib.hid H
  have HQ := Lib.hid hQ
  have HSC := Lib.hid (hsc.kin HP.out.kinw)
  obtain ⟨kd, nm, k, xh, m, fs, kl, kb, tq, cu⟩ := x
  have HCX := Lib.hid hsc
  have hnm := hgx.name
  have hk63 := hgx.n
  have hxt := hgx.h
  have hfb := hgx.fs
  have hkb := hgx.kb
  have htq := hgx.torn
  have hcu := hgx.cut
  simp only at hfs hri hnm hk63 hxt hfb hkb htq hcu hk hm40 HQ
  obtain ⟨y0, y1, y2, yh, y10, y11, y12, y13⟩ := HSC.out
  have HYH := Lib.hid yh
  simp only at y0 y1 y2 y10 y11 y12 y13
  clear hQ hsc hgx yh
  focus
        obtain ⟨d', er, HG2, HPR, HRF⟩ := splays_says2 H W d nm hnm xh hxt al m cl fs hfs hfb hm40 HG HV0
        clear hfs hri hnm hk63 hxt hfb hkb htq hcu
        rw [show swPlays = Code.block 2 _ from rfl]
        have HPD0 := Lib.hid (HP.out.next hH.out (Below.refl _ _).drew)
        go_wp2_with fail
        refine wp_region_held_drew (S := (fun W' => Kin W W')) (by kernel_rfl) HPD0.out.kinw (fun hS => ?_)
        refine rgw 0 ⟨some 97, .move (.tmp 5), 24, _, _, none⟩ hS ?_
        refine rgw 1 ⟨some 98, .move (.tmp 1), 22, _, _, none⟩ hS ?_
        refine rgw 2 ⟨some 99, .move (.tmp 7), 3, _, _, none⟩ hS ?_
        refine rgw 3 ⟨some 100, .indexAddr 22 (.tmp 98) (.tmp 99), 0, _, _, none⟩ hS ?_
        refine rgw 4 ⟨some 101, .fieldAddr 40 (.tmp 100) 1, 0, _, _, none⟩ hS ?_
        refine rgw 5 ⟨some 102, .load 9 (.tmp 101), 9, _, _, none⟩ hS ?_ (hy := by intro w hSw; (try dsimp only at hSw); have z := HCX.out.kin hSw; have x1 := z.name; have x2 := z.n; have x10 := z.data; have x11 := z.keep; have x12 := z.torn; have x13 := z.cut; simp only at x1 x2 x10 x11 x12 x13; go_simp; try with_reducible rfl)
        refine rgw 6 ⟨some 103, .move (.tmp 1), 22, _, _, none⟩ hS ?_
        refine rgw 7 ⟨some 104, .move (.tmp 7), 3, _, _, none⟩ hS ?_
        refine rgw 8 ⟨some 105, .indexAddr 22 (.tmp 103) (.tmp 104), 0, _, _, none⟩ hS ?_
        refine rgw 9 ⟨some 106, .fieldAddr 40 (.tmp 105) 3, 0, _, _, none⟩ hS ?_
        refine rgw 10 ⟨some 107, .load 34 (.tmp 106), 34, _, _, none⟩ hS ?_ (hy := by intro w hSw; (try dsimp only at hSw); refine exec_load_hat (.tmp 106) ?_ ?_ (HCX.out.kin hSw).h <;> rfl)
        refine rgw 11 ⟨some 108, .move (.tmp 1), 22, _, _, none⟩ hS ?_
        refine rgw 12 ⟨some 109, .move (.tmp 7), 3, _, _, none⟩ hS ?_
        refine rgw 13 ⟨some 110, .indexAddr 22 (.tmp 108) (.tmp 109), 0, _, _, none⟩ hS ?_
        refine rgw 14 ⟨some 111, .fieldAddr 40 (.tmp 110) 4, 0, _, _, none⟩ hS ?_
        refine rgw 15 ⟨some 112, .load 35 (.tmp 111), 35, _, _, none⟩ hS ?_ (hy := by intro w hSw; (try dsimp only at hSw); have z := HCX.out.kin hSw; have x1 := z.name; have x2 := z.n; have x10 := z.data; have x11 := z.keep; have x12 := z.torn; have x13 := z.cut; simp only at x1 x2 x10 x11 x12 x13; go_simp; try with_reducible rfl)
        refine rg_one 16 ⟨some 113, .call { callee := .value (.func 11), args := #[.tmp 97, .tmp 102, .tmp 107, .tmp 112], argTypes := #[24, 9, 34, 35] }, 41, _, _, none⟩ (by kernel_rfl) rfl (fun K hK => ?_)
        go_simp
        go_at_call 11; (with_reducible refine (HPR.out _ _ _ HPD0.out.dk HPD0.out.ex).mono ?_); rintro e w1 ⟨F1, rfl, hk1, hx1⟩; have HP1 := Lib.hid (HPD0.out.prog hH.out hk1 hx1); clear hk1 hx1; have hN := HP1.out.kinw
        refine hK.out _ _ ?_ (fun hS1 => ?_)
        · (first | exact hN | exact hS)
        clear hK K hS; have hS := hS1; clear hS1
        (try simp only [rgp])
        refine rgw 17 ⟨some 8, .assign (.tmp 113), 41, _, _, none⟩ hS ?_
        refine wpAnyH_done (by kernel_rfl) ?_ _
        clear hS hN
        go_wp2_with fail
        have HPD := Lib.hid (HP1.out.next hH.out (Below.refl _ _).drew)
        refine wp_region_held_drew (S := (fun W' => Kin W W')) (by kernel_rfl) HPD.out.kinw (fun hS => ?_)
        refine rgw 1 ⟨some 116, .move (.tmp 1), 22, _, _, none⟩ hS ?_
        refine rgw 2 ⟨some 117, .move (.tmp 7), 3, _, _, none⟩ hS ?_
        refine rgw 3 ⟨some 118, .indexAddr 22 (.tmp 116) (.tmp 117), 0, _, _, none⟩ hS ?_
        refine rgw 4 ⟨some 119, .fieldAddr 40 (.tmp 118) 1, 0, _, _, none⟩ hS ?_
        refine rgw 5 ⟨some 120, .load 9 (.tmp 119), 9, _, _, none⟩ hS ?_ (hy := by intro w hSw; (try dsimp only at hSw); have z := HCX.out.kin hSw; have x1 := z.name; have x2 := z.n; have x10 := z.data; have x11 := z.keep; have x12 := z.torn; have x13 := z.cut; simp only at x1 x2 x10 x11 x12 x13; go_simp; try with_reducible rfl)
        refine rgw 6 ⟨some 121, .move (.tmp 1), 22, _, _, none⟩ hS ?_
        refine rgw 7 ⟨some 122, .move (.tmp 7), 3, _, _, none⟩ hS ?_
        refine rgw 8 ⟨some 123, .indexAddr 22 (.tmp 121) (.tmp 122), 0, _, _, none⟩ hS ?_
        refine rgw 9 ⟨some 124, .fieldAddr 40 (.tmp 123) 3, 0, _, _, none⟩ hS ?_
        refine rgw 10 ⟨some 125, .load 34 (.tmp 124), 34, _, _, none⟩ hS ?_ (hy := by intro w hSw; (try dsimp only at hSw); refine exec_load_hat (.tmp 124) ?_ ?_ (HCX.out.kin hSw).h <;> rfl)
        refine rgw 11 ⟨some 126, .move (.tmp 1), 22, _, _, none⟩ hS ?_
        refine rgw 12 ⟨some 127, .move (.tmp 7), 3, _, _, none⟩ hS ?_
        refine rgw 13 ⟨some 128, .indexAddr 22 (.tmp 126) (.tmp 127), 0, _, _, none⟩ hS ?_
        refine rgw 14 ⟨some 129, .fieldAddr 40 (.tmp 128) 4, 0, _, _, none⟩ hS ?_
        refine rgw 15 ⟨some 130, .load 35 (.tmp 129), 35, _, _, none⟩ hS ?_ (hy := by intro w hSw; (try dsimp only at hSw); have z := HCX.out.kin hSw; have x1 := z.name; have x2 := z.n; have x10 := z.data; have x11 := z.keep; have x12 := z.torn; have x13 := z.cut; simp only at x1 x2 x10 x11 x12 x13; go_simp; try with_reducible rfl)
        refine rg_one 0 ⟨some 115, .load 28 (.tmp 6), 28, _, _, none⟩ (by kernel_rfl) rfl (fun K hK => ?_)
        rw [if_pos (by rfl)]; refine wp_load_row 28 (.tmp 6) rfl g rfl _ cs (0, 0) _ HPD.out.db.1 Tryz.underlying28 rfl HPD.out.db.info ?_
        refine hK.out _ _ ?_ (fun hS1 => ?_)
        · (first | exact hN | exact hS | exact hS.trans (Kin.below hb))
        clear hK K hS; have hS := hS1; clear hS1
        (try simp only [rgp])
        refine rg_one 16 ⟨some 131, .call { callee := .value (.func 12), args := #[.tmp 115, .tmp 120, .tmp 125, .tmp 130], argTypes := #[28, 9, 34, 35] }, 43, _, _, none⟩ (by kernel_rfl) rfl (fun K hK => ?_)
        go_simp
        (go_at_call 12; (with_reducible refine (HRF.out _ _ _ HPD.out.foot HPD.out.rd HPD.out.exm).mono ?_); rintro e w2 ⟨v2, rfl, hr2, hb⟩; obtain ⟨cs2, rfl, h62, h12⟩ := hr2.cells; have HP2 := Lib.hid (HPD.out.next hH.out hb); have HR2 := Lib.hid hr2; have HC6 := Lib.hid h62; have HC1 := Lib.hid h12; have hN := HP2.out.kinw; clear hr2 h62 h12)
        refine hK.out _ _ ?_ (fun hS1 => ?_)
        · (first | exact hN | exact hS | exact hS.trans (Kin.below hb))
        clear hK K hS; have hS := hS1; clear hS1
        (try simp only [rgp])
        refine rgw 17 ⟨some 114, .move (.tmp 131), 43, _, _, none⟩ hS ?_
        refine rgw 18 ⟨some 132, .extract (.tmp 114) 0, 28, _, _, none⟩ hS ?_
        refine rgw 19 ⟨some 133, .extract (.tmp 114) 1, 41, _, _, none⟩ hS ?_
        refine rg_one 20 ⟨none, .store 28 (.tmp 6) (.tmp 132), 0, _, _, none⟩ (by kernel_rfl) rfl (fun K hK => ?_)
        rw [if_pos (by rfl)]; refine wp_store_row 28 (.tmp 6) (.tmp 132) rfl g cs2 rfl rfl _ cs HP2.out.db.1 (by rw [HC6.out]; exact disk_info) (by rw [HC6.out, H6.out]) HC1.out ?_; have HP3 := Lib.hid (HP2.out.put hH.out HR2.out HC6.out); (try clear hN); have hN := HP3.out.kinw
        refine hK.out _ _ ?_ (fun hS1 => ?_)
        · (first | exact hN | exact hS | exact hS.trans (Kin.below hb))
        clear hK K hS; have hS := hS1; clear hS1
        (try simp only [Act.put])
        refine rgw 21 ⟨some 9, .assign (.tmp 133), 41, _, _, none⟩ hS ?_
        refine wpAnyH_done (by kernel_rfl) ?_ _
        clear hS hN
        (try go_wp2_with fail)
        exact HQ.out er d' cs2 _ _ _ _ _ _ _ _ _ _ _ _ _ _ _ _ _ _ _ _ _ _ _ _ _ _ _ _ _ _ _ _ _ _ _ _ _ _ _ _ _ _ _ _ _ _ _ _ _ _ _ _ _ _ _ _ _ _ _ _ _ _ _ _ _ _ _ _ _ _ _ _ _ _ _ _ _ _ _ _ _ _ _ _ _ _ _ _ _ _ _ _ _ _ _ _ _ _ _ _ _ _ _ _ _ _ _ _ _ _ _ _ _ _ _ _ _ _ _ _ _ _ _ _ _ _ _ _ _ _ _ _ _ _ _ _ _ _ _ _ _ _ _ _ _ _ _ _ _ _ _ _ _ _ _ _ _ _ _ _ _ _ _ _ HP3 HG2 HC6 HC1
end Go.Proofs.YtpoiapfgbbmekaaGreatDoor
namespace Go.Proofs.YtpoiapfgbbmekaaGreatDoor
open Go Go.RowKit
set_option maxRecDepth 8000 in
set_option maxHeartbeats 8000000 in
theorem splays_k3 : SwSays 3 := by
  intro DK H W c b off n cap i g al cl ak ck p d cs F M wr x hsc hfs hri hgx hm40 HV0 HP HG H6 hlt hk
  intros
  rename_i N hQ
  have hH := Lib.hid H
  have HQ := Lib.hid hQ
  have HSC := Lib.hid (hsc.kin HP.out.kinw)
  obtain ⟨kd, nm, k, xh, m, fs, kl, kb, tq, cu⟩ := x
  have HCX := Lib.hid hsc
  have hnm := hgx.name
  have hk63 := hgx.n
  have hxt := hgx.h
  have hfb := hgx.fs
  have hkb := hgx.kb
  have htq := hgx.torn
  have hcu := hgx.cut
  simp only at hfs hri hnm hk63 hxt hfb hkb htq hcu hk hm40 HQ
  obtain ⟨y0, y1, y2, yh, y10, y11, y12, y13⟩ := HSC.out
  have HYH := Lib.hid yh
  simp only at y0 y1 y2 y10 y11 y12 y13
  clear hQ hsc hgx yh
  focus
        obtain ⟨d', er, HG2, HPR, HRF⟩ := splays_says3 H W d nm hnm k hk63 HG HV0
        clear hfs hri hnm hk63 hxt hfb hkb htq hcu
        rw [show swPlays = Code.block 2 _ from rfl]
        have HPD0 := Lib.hid (HP.out.next hH.out (Below.refl _ _).drew)
        go_wp2_with fail
        refine wp_region_held_drew (S := (fun W' => Kin W W')) (by kernel_rfl) HPD0.out.kinw (fun hS => ?_)
        refine rgw 0 ⟨some 136, .move (.tmp 5), 24, _, _, none⟩ hS ?_
        refine rgw 1 ⟨some 137, .move (.tmp 1), 22, _, _, none⟩ hS ?_
        refine rgw 2 ⟨some 138, .move (.tmp 7), 3, _, _, none⟩ hS ?_
        refine rgw 3 ⟨some 139, .indexAddr 22 (.tmp 137) (.tmp 138), 0, _, _, none⟩ hS ?_
        refine rgw 4 ⟨some 140, .fieldAddr 40 (.tmp 139) 1, 0, _, _, none⟩ hS ?_
        refine rgw 5 ⟨some 141, .load 9 (.tmp 140), 9, _, _, none⟩ hS ?_ (hy := by intro w hSw; (try dsimp only at hSw); have z := HCX.out.kin hSw; have x1 := z.name; have x2 := z.n; have x10 := z.data; have x11 := z.keep; have x12 := z.torn; have x13 := z.cut; simp only at x1 x2 x10 x11 x12 x13; go_simp; try with_reducible rfl)
        refine rgw 6 ⟨some 142, .move (.tmp 1), 22, _, _, none⟩ hS ?_
        refine rgw 7 ⟨some 143, .move (.tmp 7), 3, _, _, none⟩ hS ?_
        refine rgw 8 ⟨some 144, .indexAddr 22 (.tmp 142) (.tmp 143), 0, _, _, none⟩ hS ?_
        refine rgw 9 ⟨some 145, .fieldAddr 40 (.tmp 144) 2, 0, _, _, none⟩ hS ?_
        refine rgw 10 ⟨some 146, .load 3 (.tmp 145), 3, _, _, none⟩ hS ?_ (hy := by intro w hSw; (try dsimp only at hSw); have z := HCX.out.kin hSw; have x1 := z.name; have x2 := z.n; have x10 := z.data; have x11 := z.keep; have x12 := z.torn; have x13 := z.cut; simp only at x1 x2 x10 x11 x12 x13; go_simp; try with_reducible rfl)
        refine rg_one 11 ⟨some 147, .call { callee := .value (.func 13), args := #[.tmp 136, .tmp 141, .tmp 146], argTypes := #[24, 9, 3] }, 41, _, _, none⟩ (by kernel_rfl) rfl (fun K hK => ?_)
        go_simp
        go_at_call 13; (with_reducible refine (HPR.out _ _ _ HPD0.out.dk HPD0.out.ex).mono ?_); rintro e w1 ⟨F1, rfl, hk1, hx1⟩; have HP1 := Lib.hid (HPD0.out.prog hH.out hk1 hx1); clear hk1 hx1; have hN := HP1.out.kinw
        refine hK.out _ _ ?_ (fun hS1 => ?_)
        · (first | exact hN | exact hS)
        clear hK K hS; have hS := hS1; clear hS1
        (try simp only [rgp])
        refine rgw 12 ⟨some 8, .assign (.tmp 147), 41, _, _, none⟩ hS ?_
        refine wpAnyH_done (by kernel_rfl) ?_ _
        clear hS hN
        go_wp2_with fail
        have HPD := Lib.hid (HP1.out.next hH.out (Below.refl _ _).drew)
        refine wp_region_held_drew (S := (fun W' => Kin W W')) (by kernel_rfl) HPD.out.kinw (fun hS => ?_)
        refine rgw 1 ⟨some 150, .move (.tmp 1), 22, _, _, none⟩ hS ?_
        refine rgw 2 ⟨some 151, .move (.tmp 7), 3, _, _, none⟩ hS ?_
        refine rgw 3 ⟨some 152, .indexAddr 22 (.tmp 150) (.tmp 151), 0, _, _, none⟩ hS ?_
        refine rgw 4 ⟨some 153, .fieldAddr 40 (.tmp 152) 1, 0, _, _, none⟩ hS ?_
        refine rgw 5 ⟨some 154, .load 9 (.tmp 153), 9, _, _, none⟩ hS ?_ (hy := by intro w hSw; (try dsimp only at hSw); have z := HCX.out.kin hSw; have x1 := z.name; have x2 := z.n; have x10 := z.data; have x11 := z.keep; have x12 := z.torn; have x13 := z.cut; simp only at x1 x2 x10 x11 x12 x13; go_simp; try with_reducible rfl)
        refine rgw 6 ⟨some 155, .move (.tmp 1), 22, _, _, none⟩ hS ?_
        refine rgw 7 ⟨some 156, .move (.tmp 7), 3, _, _, none⟩ hS ?_
        refine rgw 8 ⟨some 157, .indexAddr 22 (.tmp 155) (.tmp 156), 0, _, _, none⟩ hS ?_
        refine rgw 9 ⟨some 158, .fieldAddr 40 (.tmp 157) 2, 0, _, _, none⟩ hS ?_
        refine rgw 10 ⟨some 159, .load 3 (.tmp 158), 3, _, _, none⟩ hS ?_ (hy := by intro w hSw; (try dsimp only at hSw); have z := HCX.out.kin hSw; have x1 := z.name; have x2 := z.n; have x10 := z.data; have x11 := z.keep; have x12 := z.torn; have x13 := z.cut; simp only at x1 x2 x10 x11 x12 x13; go_simp; try with_reducible rfl)
        refine rg_one 0 ⟨some 149, .load 28 (.tmp 6), 28, _, _, none⟩ (by kernel_rfl) rfl (fun K hK => ?_)
        rw [if_pos (by rfl)]; refine wp_load_row 28 (.tmp 6) rfl g rfl _ cs (0, 0) _ HPD.out.db.1 Tryz.underlying28 rfl HPD.out.db.info ?_
        refine hK.out _ _ ?_ (fun hS1 => ?_)
        · (first | exact hN | exact hS | exact hS.trans (Kin.below hb))
        clear hK K hS; have hS := hS1; clear hS1
        (try simp only [rgp])
        refine rg_one 11 ⟨some 160, .call { callee := .value (.func 14), args := #[.tmp 149, .tmp 154, .tmp 159], argTypes := #[28, 9, 3] }, 43, _, _, none⟩ (by kernel_rfl) rfl (fun K hK => ?_)
        go_simp
        (go_at_call 14; (with_reducible refine (HRF.out _ _ _ HPD.out.foot HPD.out.rd HPD.out.exm).mono ?_); rintro e w2 ⟨v2, rfl, hr2, hb⟩; obtain ⟨cs2, rfl, h62, h12⟩ := hr2.cells; have HP2 := Lib.hid (HPD.out.next hH.out hb); have HR2 := Lib.hid hr2; have HC6 := Lib.hid h62; have HC1 := Lib.hid h12; have hN := HP2.out.kinw; clear hr2 h62 h12)
        refine hK.out _ _ ?_ (fun hS1 => ?_)
        · (first | exact hN | exact hS | exact hS.trans (Kin.below hb))
        clear hK K hS; have hS := hS1; clear hS1
        (try simp only [rgp])
        refine rgw 12 ⟨some 148, .move (.tmp 160), 43, _, _, none⟩ hS ?_
        refine rgw 13 ⟨some 161, .extract (.tmp 148) 0, 28, _, _, none⟩ hS ?_
        refine rgw 14 ⟨some 162, .extract (.tmp 148) 1, 41, _, _, none⟩ hS ?_
        refine rg_one 15 ⟨none, .store 28 (.tmp 6) (.tmp 161), 0, _, _, none⟩ (by kernel_rfl) rfl (fun K hK => ?_)
        rw [if_pos (by rfl)]; refine wp_store_row 28 (.tmp 6) (.tmp 161) rfl g cs2 rfl rfl _ cs HP2.out.db.1 (by rw [HC6.out]; exact disk_info) (by rw [HC6.out, H6.out]) HC1.out ?_; have HP3 := Lib.hid (HP2.out.put hH.out HR2.out HC6.out); (try clear hN); have hN := HP3.out.kinw
        refine hK.out _ _ ?_ (fun hS1 => ?_)
        · (first | exact hN | exact hS | exact hS.trans (Kin.below hb))
        clear hK K hS; have hS := hS1; clear hS1
        (try simp only [Act.put])
        refine rgw 16 ⟨some 9, .assign (.tmp 162), 41, _, _, none⟩ hS ?_
        refine wpAnyH_done (by kernel_rfl) ?_ _
        clear hS hN
        (try go_wp2_with fail)
        exact HQ.out er d' cs2 _ _ _ _ _ _ _ _ _ _ _ _ _ _ _ _ _ _ _ _ _ _ _ _ _ _ _ _ _ _ _ _ _ _ _ _ _ _ _ _ _ _ _ _ _ _ _ _ _ _ _ _ _ _ _ _ _ _ _ _ _ _ _ _ _ _ _ _ _ _ _ _ _ _ _ _ _ _ _ _ _ _ _ _ _ _ _ _ _ _ _ _ _ _ _ _ _ _ _ _ _ _ _ _ _ _ _ _ _ _ _ _ _ _ _ _ _ _ _ _ _ _ _ _ _ _ _ _ _ _ _ _ _ _ _ _ _ _ _ _ _ _ _ _ _ _ _ _ _ _ _ _ _ _ _ _ _ _ _ _ _ _ _ _ HP3 HG2 HC6 HC1
end Go.Proofs.YtpoiapfgbbmekaaGreatDoor
namespace Go.Proofs.YtpoiapfgbbmekaaGreatDoor
open Go Go.RowKit
set_option maxRecDepth 8000 in
set_option maxHeartbeats 8000000 in
theorem splays_k4 : SwSays 4 := by
  intro DK H W c b off n cap i g al cl ak ck p d cs F M wr x hsc hfs hri hgx hm40 HV0 HP HG H6 hlt hk
  intros
  rename_i N hQ
  have hH := Lib.hid H
  have HQ := Lib.hid hQ
  have HSC := Lib.hid (hsc.kin HP.out.kinw)
  obtain ⟨kd, nm, k, xh, m, fs, kl, kb, tq, cu⟩ := x
  have HCX := Lib.hid hsc
  have hnm := hgx.name
  have hk63 := hgx.n
  have hxt := hgx.h
  have hfb := hgx.fs
  have hkb := hgx.kb
  have htq := hgx.torn
  have hcu := hgx.cut
  simp only at hfs hri hnm hk63 hxt hfb hkb htq hcu hk hm40 HQ
  obtain ⟨y0, y1, y2, yh, y10, y11, y12, y13⟩ := HSC.out
  have HYH := Lib.hid yh
  simp only at y0 y1 y2 y10 y11 y12 y13
  clear hQ hsc hgx yh
  focus
        obtain ⟨d', er, HG2, HPR, HRF⟩ := splays_says4 H W d k hk63 HG HV0
        clear hfs hri hnm hk63 hxt hfb hkb htq hcu
        rw [show swPlays = Code.block 2 _ from rfl]
        go_wp2_with (first
          | (go_at_call 15; (with_reducible refine (HPR.out _ _ _ HP.out.dk HP.out.ex).mono ?_); rintro e w1 ⟨F1, rfl, hk1, hx1⟩; have HP1 := Lib.hid (HP.out.prog hH.out hk1 hx1); clear hk1 hx1))
        have HPD := Lib.hid (HP1.out.next hH.out (Below.refl _ _).drew)
        refine wp_region_held_drew (S := (fun W' => Kin W W')) (by kernel_rfl) HPD.out.kinw (fun hS => ?_)
        refine rgw 1 ⟨some 174, .move (.tmp 1), 22, _, _, none⟩ hS ?_
        refine rgw 2 ⟨some 175, .move (.tmp 7), 3, _, _, none⟩ hS ?_
        refine rgw 3 ⟨some 176, .indexAddr 22 (.tmp 174) (.tmp 175), 0, _, _, none⟩ hS ?_
        refine rgw 4 ⟨some 177, .fieldAddr 40 (.tmp 176) 2, 0, _, _, none⟩ hS ?_
        refine rgw 5 ⟨some 178, .load 3 (.tmp 177), 3, _, _, none⟩ hS ?_ (hy := by intro w hSw; (try dsimp only at hSw); have z := HCX.out.kin hSw; have x1 := z.name; have x2 := z.n; have x10 := z.data; have x11 := z.keep; have x12 := z.torn; have x13 := z.cut; simp only at x1 x2 x10 x11 x12 x13; go_simp; try with_reducible rfl)
        refine rg_one 0 ⟨some 173, .load 28 (.tmp 6), 28, _, _, none⟩ (by kernel_rfl) rfl (fun K hK => ?_)
        rw [if_pos (by rfl)]; refine wp_load_row 28 (.tmp 6) rfl g rfl _ cs (0, 0) _ HPD.out.db.1 Tryz.underlying28 rfl HPD.out.db.info ?_
        refine hK.out _ _ ?_ (fun hS1 => ?_)
        · (first | exact hN | exact hS | exact hS.trans (Kin.below hb))
        clear hK K hS; have hS := hS1; clear hS1
        (try simp only [rgp])
        refine rg_one 6 ⟨some 179, .call { callee := .value (.func 16), args := #[.tmp 173, .tmp 178], argTypes := #[28, 3] }, 43, _, _, none⟩ (by kernel_rfl) rfl (fun K hK => ?_)
        go_simp
        (go_at_call 16; (with_reducible refine (HRF.out _ _ _ HPD.out.foot HPD.out.rd HPD.out.exm).mono ?_); rintro e w2 ⟨v2, rfl, hr2, hb⟩; obtain ⟨cs2, rfl, h62, h12⟩ := hr2.cells; have HP2 := Lib.hid (HPD.out.next hH.out hb); have HR2 := Lib.hid hr2; have HC6 := Lib.hid h62; have HC1 := Lib.hid h12; have hN := HP2.out.kinw; clear hr2 h62 h12)
        refine hK.out _ _ ?_ (fun hS1 => ?_)
        · (first | exact hN | exact hS | exact hS.trans (Kin.below hb))
        clear hK K hS; have hS := hS1; clear hS1
        (try simp only [rgp])
        refine rgw 7 ⟨some 172, .move (.tmp 179), 43, _, _, none⟩ hS ?_
        refine rgw 8 ⟨some 180, .extract (.tmp 172) 0, 28, _, _, none⟩ hS ?_
        refine rgw 9 ⟨some 181, .extract (.tmp 172) 1, 41, _, _, none⟩ hS ?_
        refine rg_one 10 ⟨none, .store 28 (.tmp 6) (.tmp 180), 0, _, _, none⟩ (by kernel_rfl) rfl (fun K hK => ?_)
        rw [if_pos (by rfl)]; refine wp_store_row 28 (.tmp 6) (.tmp 180) rfl g cs2 rfl rfl _ cs HP2.out.db.1 (by rw [HC6.out]; exact disk_info) (by rw [HC6.out, H6.out]) HC1.out ?_; have HP3 := Lib.hid (HP2.out.put hH.out HR2.out HC6.out); (try clear hN); have hN := HP3.out.kinw
        refine hK.out _ _ ?_ (fun hS1 => ?_)
        · (first | exact hN | exact hS | exact hS.trans (Kin.below hb))
        clear hK K hS; have hS := hS1; clear hS1
        (try simp only [Act.put])
        refine rgw 11 ⟨some 9, .assign (.tmp 181), 41, _, _, none⟩ hS ?_
        refine wpAnyH_done (by kernel_rfl) ?_ _
        clear hS hN
        (try go_wp2_with fail)
        exact HQ.out er d' cs2 _ _ _ _ _ _ _ _ _ _ _ _ _ _ _ _ _ _ _ _ _ _ _ _ _ _ _ _ _ _ _ _ _ _ _ _ _ _ _ _ _ _ _ _ _ _ _ _ _ _ _ _ _ _ _ _ _ _ _ _ _ _ _ _ _ _ _ _ _ _ _ _ _ _ _ _ _ _ _ _ _ _ _ _ _ _ _ _ _ _ _ _ _ _ _ _ _ _ _ _ _ _ _ _ _ _ _ _ _ _ _ _ _ _ _ _ _ _ _ _ _ _ _ _ _ _ _ _ _ _ _ _ _ _ _ _ _ _ _ _ _ _ _ _ _ _ _ _ _ _ _ _ _ _ _ _ _ _ _ _ _ _ _ _ HP3 HG2 HC6 HC1
end Go.Proofs.YtpoiapfgbbmekaaGreatDoor
namespace Go.Proofs.YtpoiapfgbbmekaaGreatDoor
open Go Go.RowKit
set_option maxRecDepth 8000 in
set_option maxHeartbeats 8000000 in
theorem splays_k5 : SwSays 5 := by
  intro DK H W c b off n cap i g al cl ak ck p d cs F M wr x hsc hfs hri hgx hm40 HV0 HP HG H6 hlt hk
  intros
  rename_i N hQ
  have hH := Lib.hid H
  have HQ := Lib.hid hQ
  have HSC := Lib.hid (hsc.kin HP.out.kinw)
  obtain ⟨kd, nm, k, xh, m, fs, kl, kb, tq, cu⟩ := x
  have HCX := Lib.hid hsc
  have hnm := hgx.name
  have hk63 := hgx.n
  have hxt := hgx.h
  have hfb := hgx.fs
  have hkb := hgx.kb
  have htq := hgx.torn
  have hcu := hgx.cut
  simp only at hfs hri hnm hk63 hxt hfb hkb htq hcu hk hm40 HQ
  obtain ⟨y0, y1, y2, yh, y10, y11, y12, y13⟩ := HSC.out
  have HYH := Lib.hid yh
  simp only at y0 y1 y2 y10 y11 y12 y13
  clear hQ hsc hgx yh
  focus
        obtain ⟨d', HG2, HPR, HRF⟩ := splays_says5 H W d ak kl ck kb hri hkb tq cu htq hcu HG
        clear hfs hri hnm hk63 hxt hfb hkb htq hcu
        rw [show swPlays = Code.block 2 _ from rfl]
        go_wp2_with (first
          | (go_at_call 17; (with_reducible refine (HPR.out _ _ _ HP.out.dk HP.out.ex).mono ?_); rintro e w1 ⟨F1, rfl, hk1, hx1⟩; have HP1 := Lib.hid (HP.out.prog hH.out hk1 hx1); clear hk1 hx1))
        have HPD := Lib.hid (HP1.out.next hH.out (Below.refl _ _).drew)
        refine wp_region_held_drew (S := (fun W' => Kin W W')) (by kernel_rfl) HPD.out.kinw (fun hS => ?_)
        refine rgw 1 ⟨some 192, .move (.tmp 1), 22, _, _, none⟩ hS ?_
        refine rgw 2 ⟨some 193, .move (.tmp 7), 3, _, _, none⟩ hS ?_
        refine rgw 3 ⟨some 194, .indexAddr 22 (.tmp 192) (.tmp 193), 0, _, _, none⟩ hS ?_
        refine rgw 4 ⟨some 195, .fieldAddr 40 (.tmp 194) 5, 0, _, _, none⟩ hS ?_
        refine rgw 5 ⟨some 196, .load 38 (.tmp 195), 38, _, _, none⟩ hS ?_ (hy := by intro w hSw; (try dsimp only at hSw); have z := HCX.out.kin hSw; have x1 := z.name; have x2 := z.n; have x10 := z.data; have x11 := z.keep; have x12 := z.torn; have x13 := z.cut; simp only at x1 x2 x10 x11 x12 x13; go_simp; try with_reducible rfl)
        refine rg_one 0 ⟨some 191, .load 28 (.tmp 6), 28, _, _, none⟩ (by kernel_rfl) rfl (fun K hK => ?_)
        rw [if_pos (by rfl)]; refine wp_load_row 28 (.tmp 6) rfl g rfl _ cs (0, 0) _ HPD.out.db.1 Tryz.underlying28 rfl HPD.out.db.info ?_
        refine hK.out _ _ ?_ (fun hS1 => ?_)
        · (first | exact hN | exact hS | exact hS.trans (Kin.below hb))
        clear hK K hS; have hS := hS1; clear hS1
        (try simp only [rgp])
        refine rg_one 6 ⟨some 197, .call { callee := .value (.func 18), args := #[.tmp 191, .tmp 196], argTypes := #[28, 38] }, 28, _, _, none⟩ (by kernel_rfl) rfl (fun K hK => ?_)
        go_simp
        (go_at_call 18; (with_reducible refine (HRF.out _ _ _ HPD.out.foot HPD.out.rd HPD.out.exm).mono ?_); rintro e w2 ⟨v2, rfl, hr2, hb⟩; obtain ⟨cs2, rfl, h62, h12⟩ := hr2.cells; have HP2 := Lib.hid (HPD.out.next hH.out hb); have HR2 := Lib.hid hr2; have HC6 := Lib.hid h62; have HC1 := Lib.hid h12; have hN := HP2.out.kinw; clear hr2 h62 h12)
        refine hK.out _ _ ?_ (fun hS1 => ?_)
        · (first | exact hN | exact hS | exact hS.trans (Kin.below hb))
        clear hK K hS; have hS := hS1; clear hS1
        (try simp only [rgp])
        refine rg_one 7 ⟨none, .store 28 (.tmp 6) (.tmp 197), 0, _, _, none⟩ (by kernel_rfl) rfl (fun K hK => ?_)
        rw [if_pos (by rfl)]; refine wp_store_row 28 (.tmp 6) (.tmp 197) rfl g cs2 rfl rfl _ cs HP2.out.db.1 (by rw [HC6.out]; exact disk_info) (by rw [HC6.out, H6.out]) HC1.out ?_; have HP3 := Lib.hid (HP2.out.put hH.out HR2.out HC6.out); (try clear hN); have hN := HP3.out.kinw
        refine hK.out _ _ ?_ (fun hS1 => ?_)
        · (first | exact hN | exact hS | exact hS.trans (Kin.below hb))
        clear hK K hS; have hS := hS1; clear hS1
        (try simp only [Act.put])
        refine wpAnyH_done (by kernel_rfl) ?_ _
        clear hS hN
        (try go_wp2_with fail)
        exact HQ.out 0 d' cs2 _ _ _ _ _ _ _ _ _ _ _ _ _ _ _ _ _ _ _ _ _ _ _ _ _ _ _ _ _ _ _ _ _ _ _ _ _ _ _ _ _ _ _ _ _ _ _ _ _ _ _ _ _ _ _ _ _ _ _ _ _ _ _ _ _ _ _ _ _ _ _ _ _ _ _ _ _ _ _ _ _ _ _ _ _ _ _ _ _ _ _ _ _ _ _ _ _ _ _ _ _ _ _ _ _ _ _ _ _ _ _ _ _ _ _ _ _ _ _ _ _ _ _ _ _ _ _ _ _ _ _ _ _ _ _ _ _ _ _ _ _ _ _ _ _ _ _ _ _ _ _ _ _ _ _ _ _ _ _ _ _ _ _ _ HP3 HG2 HC6 HC1
end Go.Proofs.YtpoiapfgbbmekaaGreatDoor
